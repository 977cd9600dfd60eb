import Derived.Test.YtbkdaoicnobllabGreatDoorG25
import Derived.Test.YtbkdaoicnobllabGreatDoorG27
import Derived.Test.YtbkdaoicnobllabGreatDoorG31
import Derived.Test.YtbkdaoicnobllabGreatDoorG26
import Derived.Test.YtbkdaoicnobllabGreatDoorG02
import Derived.Test.YtbkdaoicnobllabGreatDoorG12
import Derived.Laws.IdiomStrings
import Derived.Test.YtbkdaoicnobllabGreatDoorG22

namespace Go.Proofs.YtbkdaoicnobllabGreatDoor
open Go.RowKit

theorem sign_pat {f : Int} (hf : 0 ≤ f ∧ f ≤ 2) {a : Nat} (h1 : (a : Int) < infN f) (neg : Bool) : hasB f (signedV f neg a) = true ∧ negI f (signedV f neg a) = neg ∧ amtI f (signedV f neg a) = a ∧ -9223372036854775808 ≤ signedV f neg a ∧ signedV f neg a ≤ 9223372036854775807 := by
  rcases (by omega : f = 0 ∨ f = 1 ∨ f = 2) with rfl | rfl | rfl
  · have h1 : (a : Int) < 31744 := h1
    cases neg <;> simp [hasB, negI, amtI, sgnF, signedV, sgnP] <;> omega
  · have h1 : (a : Int) < 2139095040 := h1
    cases neg <;> simp [hasB, negI, amtI, sgnF, signedV, sgnP] <;> omega
  · have h1 : (a : Int) < 9218868437227405312 := h1
    cases neg <;> simp [hasB, negI, amtI, sgnF, signedV, sgnP] <;> omega
/-- A text and what is known of it. -/
def StrPost (w w' : World) (r : Ending) (Q : List UInt8 → Prop) : Prop := ∃ U : List UInt8, r = .returned (.string (str U)) ∧ Q U ∧ U.length ≤ 5001 ∧ Below w.heap.size w w'
theorem out_fin {f : Int} (hf : 0 ≤ f ∧ f ≤ 2) {a : Nat} (h1 : (a : Int) < infN f) {neg : Bool} {w w' : World} {r : Ending} {Q R : List UInt8 → Prop} (h : OutPost f (signedV f neg a) w w' r Q) (hq : ∀ T, Q T → R (minusT neg T)) : StrPost w w' r R := by
  obtain ⟨p1, p2, p3, _⟩ := sign_pat hf h1 neg
  obtain ⟨T, rfl, g1, g2, g3⟩ := h
  have e : outT f (signedV f neg a) T = minusT neg T := by
    unfold outT minusT; rw [p2, p3, if_neg (by omega), if_pos h1]
  refine ⟨minusT neg T, by rw [e], hq T (g1 (by rw [p3]; exact h1)), ?_, g3⟩
  unfold minusT; rw [List.length_append]; split <;> simp <;> omega
/-- Read as the pattern. -/
def ReadsAs (cv : Value) (f x : Int) (U : List UInt8) : Prop := ∀ w : World, Calls Tryz.prog 17 #[cv, .string (str U), .int .i64 f, .int .i64 x] w fun e w' => e = .returned (.bool true) ∧ Below w.heap.size w w'
theorem reads_as (cv : Value) (f x : Int) (U : List UInt8) (h : ∀ b g at' err : Int, PParse (str U) f 0 b g at' err → b = x ∧ err = 0) : ReadsAs cv f x U := fun w => by
  refine (reads_any cv (str U) f x w).mono ?_
  rintro e w' ⟨b, g, at', err, hp, rfl, hb⟩
  obtain ⟨q1, q2⟩ := h b g at' err hp
  exact ⟨by rw [show decide (b = x ∧ err = 0) = true from by simp only [decide_eq_true_eq]; exact ⟨q1, q2⟩], hb⟩
/-- What is known of the numbers of 'back'. -/
structure BackK (cv : Value) (f x I N : Int) : Prop where
  h1 : ∀ w : World, Tab w → Calls Tryz.prog 13 #[cv, .int .i64 x, .int .i64 f, .int .i64 0, .int .i64 (-1)] w fun r w' => StrPost w w' r (ReadsAs cv f x)
  h2 : ∀ w : World, Tab w → Calls Tryz.prog 13 #[cv, .int .i64 x, .int .i64 f, .int .i64 1, .int .i64 (-1)] w fun r w' => StrPost w w' r (fun U => U.length ≤ 900 → ReadsAs cv f x U)
  h3 : ∀ w : World, Tab w → Calls Tryz.prog 13 #[cv, .int .i64 x, .int .i64 f, .int .i64 2, .int .i64 16] w fun r w' => StrPost w w' r (ReadsAs cv f x)
  h4 : ∀ w : World, Tab w → Calls Tryz.prog 13 #[cv, .int .i64 x, .int .i64 f, .int .i64 4, .int .i64 (-1)] w fun r w' => StrPost w w' r (fun U => ∀ m : Int, 0 ≤ m ∧ m ≤ 4 → ∀ w : World, Calls Tryz.prog 18 #[cv, .string (str U), .int .i64 f, .int .i64 m, .int .i64 x, .int .i64 0] w fun e w' => e = .returned (.bool true) ∧ Below w.heap.size w w')
  h5 : ∀ w : World, Tab w → Calls Tryz.prog 13 #[cv, .int .i64 I, .int .i64 f, .int .i64 0, .int .i64 (-1)] w fun r w' => r = .returned (.string (str [105, 110, 102])) ∧ Below w.heap.size w w'
  h6 : ∀ w : World, Tab w → Calls Tryz.prog 13 #[cv, .int .i64 (I + 1), .int .i64 f, .int .i64 0, .int .i64 (-1)] w fun r w' => r = .returned (.string (str [110, 97, 110])) ∧ Below w.heap.size w w'
  h7 : ReadsAs cv f I [105, 110, 102]
  h8 : ReadsAs cv f N [110, 97, 110]
theorem psh_all (cv : Value) (x f : Int) (hf : 0 ≤ f ∧ f ≤ 2) (h1 : -9223372036854775808 ≤ x) (h2 : x ≤ 9223372036854775807) (w : World) (ht : Tab w) : Calls Tryz.prog 21 #[cv, .int .i64 x, .int .i64 f, .int .i64 0, .int .i64 (-1), .int .i64 0] w fun r w' => FmtPost f x 0 (-1) 0 w w' r (ShortQ false f (amtI f x).toNat) := by
  rcases (by omega : f = 0 ∨ f = 1 ∨ f = 2) with rfl | rfl | rfl
  · exact pShF0 cv x (-1) 0 h1 h2 w ht
  · exact pShF1 cv x (-1) 0 h1 h2 w ht
  · exact pShF2 cv x (-1) 0 h1 h2 w ht
theorem ppl_all (cv : Value) (x f : Int) (hf : 0 ≤ f ∧ f ≤ 2) (h1 : -9223372036854775808 ≤ x) (h2 : x ≤ 9223372036854775807) (w : World) (ht : Tab w) : Calls Tryz.prog 21 #[cv, .int .i64 x, .int .i64 f, .int .i64 1, .int .i64 (-1), .int .i64 0] w fun r w' => FmtPost f x 1 (-1) 0 w w' r (ShortQ true f (amtI f x).toNat) := by
  rcases (by omega : f = 0 ∨ f = 1 ∨ f = 2) with rfl | rfl | rfl
  · exact pPlF0 cv x (-1) 0 h1 h2 w ht
  · exact pPlF1 cv x (-1) 0 h1 h2 w ht
  · exact pPlF2 cv x (-1) 0 h1 h2 w ht
theorem phex_all (cv : Value) (x f : Int) (hf : 0 ≤ f ∧ f ≤ 2) (h1 : -9223372036854775808 ≤ x) (h2 : x ≤ 9223372036854775807) (w : World) (ht : Tab w) : Calls Tryz.prog 21 #[cv, .int .i64 x, .int .i64 f, .int .i64 4, .int .i64 (-1), .int .i64 0] w fun r w' => FmtPost f x 4 (-1) 0 w w' r (HexQ f (amtI f x).toNat) := by
  rcases (by omega : f = 0 ∨ f = 1 ∨ f = 2) with rfl | rfl | rfl
  · exact phexF0 cv x (-1) 0 h1 h2 w ht
  · exact phexF1 cv x (-1) 0 h1 h2 w ht
  · exact phexF2 cv x (-1) 0 h1 h2 w ht
theorem pexp_all (cv : Value) (x f n : Int) (hf : 0 ≤ f ∧ f ≤ 2) (h1 : -9223372036854775808 ≤ x) (h2 : x ≤ 9223372036854775807) (w : World) (ht : Tab w) : Calls Tryz.prog 21 #[cv, .int .i64 x, .int .i64 f, .int .i64 2, .int .i64 n, .int .i64 0] w fun r w' => FmtPost f x 2 n 0 w w' r (ExpQ (awayB 0 (negI f x)) (valA 3000 f (amtI f x).toNat) n.toNat) := by
  rcases (by omega : f = 0 ∨ f = 1 ∨ f = 2) with rfl | rfl | rfl
  · exact pExpF0 cv x n 0 h1 h2 w ht
  · exact pExpF1 cv x n 0 h1 h2 w ht
  · exact pExpF2 cv x n 0 h1 h2 w ht
theorem inf_pat {f : Int} (hf : 0 ≤ f ∧ f ≤ 2) : hasB f (infN f) = true ∧ (∀ T, outT f (infN f) T = [105, 110, 102]) ∧ hasB f ((infN f : Int) + 1) = true ∧ (∀ T, outT f ((infN f : Int) + 1) T = [110, 97, 110]) := by
  rcases (by omega : f = 0 ∨ f = 1 ∨ f = 2) with rfl | rfl | rfl
  · exact ⟨by decide, fun _ => rfl, by decide, fun _ => rfl⟩
  · exact ⟨by decide, fun _ => rfl, by decide, fun _ => rfl⟩
  · exact ⟨by decide, fun _ => rfl, by decide, fun _ => rfl⟩
theorem back_k (cv : Value) (f : Int) (a : Nat) (neg : Bool) (hf : 0 ≤ f ∧ f ≤ 2) (h1 : (a : Int) < infN f) : BackK cv f (signedV f neg a) (infN f) (nanP f) := by
  obtain ⟨p1, p2, p3, p4, p5⟩ := sign_pat hf h1 neg
  have hi := infN_i64 hf
  have hi0 : (0 : Int) ≤ infN f := Int.natCast_nonneg _
  obtain ⟨i1, i2, i3, i4⟩ := inf_pat hf
  have ea : (amtI f (signedV f neg a)).toNat = a := by rw [p3]; rfl
  refine ⟨fun w hw => ?_, fun w hw => ?_, fun w hw => ?_, fun w hw => ?_, fun w hw => ?_, fun w hw => ?_, ?_, ?_⟩
  · refine (prints_out cv _ f 0 (-1) _ w ⟨p1, rfl⟩ (psh_all cv _ f hf p4 p5 w hw)).mono fun r w' h => ?_
    rw [ea] at h
    refine out_fin hf h1 h fun T hT => ?_
    obtain ⟨g1, g2⟩ := short_good hf h1 hT
    exact reads_as cv f _ _ fun b g at' err hp => g1.back hf h1 (by unfold minusT; rw [List.length_append]; split <;> simp <;> omega) hp
  · refine (prints_out cv _ f 1 (-1) _ w ⟨p1, rfl⟩ (ppl_all cv _ f hf p4 p5 w hw)).mono fun r w' h => ?_
    rw [ea] at h
    refine out_fin hf h1 h fun T hT hl => ?_
    have hl2 : T.length ≤ 900 := by unfold minusT at hl; rw [List.length_append] at hl; omega
    exact reads_as cv f _ _ fun b g at' err hp => (plain_good hf h1 hT hl2).back hf h1 hl hp
  · refine (prints_out cv _ f 2 16 _ w ⟨p1, rfl⟩ (pexp_all cv _ f 16 hf p4 p5 w hw)).mono fun r w' h => ?_
    rw [ea, p2] at h
    refine out_fin hf h1 h fun T hT => ?_
    obtain ⟨g1, g2⟩ := exp_good hf h1 hT
    exact reads_as cv f _ _ fun b g at' err hp => g1.back hf h1 (by unfold minusT; rw [List.length_append]; split <;> simp <;> omega) hp
  · refine (prints_out cv _ f 4 (-1) _ w ⟨p1, rfl⟩ (phex_all cv _ f hf p4 p5 w hw)).mono fun r w' h => ?_
    rw [ea] at h
    refine out_fin hf h1 h fun T hT m hm w => ?_
    refine (says_any cv _ f m _ 0 w).mono ?_
    rintro e w' ⟨b, g, at', err, hp, rfl, hb⟩
    obtain ⟨q1, q2, q3, q4⟩ := hex_back hf h1 hm hT hp
    exact ⟨by rw [show decide (b = signedV f neg a ∧ g = 0 ∧ at' = 0 ∧ err = 0) = true from by simp only [decide_eq_true_eq]; exact ⟨q1, q2, q3, q4⟩], hb⟩
  · refine (prints_out cv _ f 0 (-1) _ w ⟨i1, rfl⟩ (psh_all cv _ f hf (by omega) (by omega) w hw)).mono fun r w' h => ?_
    obtain ⟨T, rfl, _, _, hb⟩ := h
    exact ⟨by rw [i2], hb⟩
  · refine (prints_out cv _ f 0 (-1) _ w ⟨i3, rfl⟩ (psh_all cv _ f hf (by omega) (by omega) w hw)).mono fun r w' h => ?_
    obtain ⟨T, rfl, _, _, hb⟩ := h
    exact ⟨by rw [i4], hb⟩
  · exact reads_as cv f _ _ fun b g at' err hp => inf_back hf hp
  · exact reads_as cv f _ _ fun b g at' err hp => nan_back hf hp
end Go.Proofs.YtbkdaoicnobllabGreatDoor

namespace Go.Proofs.YtbkdaoicnobllabGreatDoor
open Go.RowKit

theorem allow_exp {verb n mode : Int} (hv : verb = 2 ∨ verb = 3) (hn : 0 ≤ n ∧ n ≤ 800) (hm : 0 ≤ mode ∧ mode ≤ 4) : allowB verb n mode = true := by
  unfold allowB
  rw [if_neg (by omega), if_pos hv]; simp; omega
theorem kexp_any (cv : Value) (f v n mode : Int) (hf : 0 ≤ f ∧ f ≤ 2) (h0 : 0 ≤ v) (h1 : v < infN f) (hn : 0 ≤ n ∧ n ≤ 800) (hm : 0 ≤ mode ∧ mode ≤ 4) (w : World) (ht : Tab w) :
    Calls Tryz.prog 21 #[cv, .int .i64 v, .int .i64 f, .int .i64 2, .int .i64 n, .int .i64 mode] w fun r w' => GoodPost w w' r (ExpQ (awayB mode false) (valA 3000 f v.toNat) n.toNat) := by
  have hi := infN_i64 hf
  obtain ⟨p1, p2, p3⟩ := fin_pat hf h0 h1
  have ha := allow_exp (verb := 2) (.inl rfl) hn hm
  rcases (by omega : f = 0 ∨ f = 1 ∨ f = 2) with rfl | rfl | rfl
  · refine (pExpF0 cv v n mode (by omega) (by omega) w ht).mono fun r w' h => ?_
    rw [p2, p3] at h
    exact fmt_good hf h0 h1 ha h
  · refine (pExpF1 cv v n mode (by omega) (by omega) w ht).mono fun r w' h => ?_
    rw [p2, p3] at h
    exact fmt_good hf h0 h1 ha h
  · refine (pExpF2 cv v n mode (by omega) (by omega) w ht).mono fun r w' h => ?_
    rw [p2, p3] at h
    exact fmt_good hf h0 h1 ha h
theorem kfix_any (cv : Value) (f v n mode : Int) (hf : 0 ≤ f ∧ f ≤ 2) (h0 : 0 ≤ v) (h1 : v < infN f) (hn : 0 ≤ n ∧ n ≤ 800) (hm : 0 ≤ mode ∧ mode ≤ 4) (w : World) (ht : Tab w) :
    Calls Tryz.prog 21 #[cv, .int .i64 v, .int .i64 f, .int .i64 3, .int .i64 n, .int .i64 mode] w fun r w' => GoodPost w w' r (FixQ (awayB mode false) (valA 3000 f v.toNat) n.toNat) := by
  have hi := infN_i64 hf
  obtain ⟨p1, p2, p3⟩ := fin_pat hf h0 h1
  have ha := allow_exp (verb := 3) (.inr rfl) hn hm
  rcases (by omega : f = 0 ∨ f = 1 ∨ f = 2) with rfl | rfl | rfl
  · refine (pFixF0 cv v n mode (by omega) (by omega) w ht).mono fun r w' h => ?_
    rw [p2, p3] at h
    exact fmt_good hf h0 h1 ha h
  · refine (pFixF1 cv v n mode (by omega) (by omega) w ht).mono fun r w' h => ?_
    rw [p2, p3] at h
    exact fmt_good hf h0 h1 ha h
  · refine (pFixF2 cv v n mode (by omega) (by omega) w ht).mono fun r w' h => ?_
    rw [p2, p3] at h
    exact fmt_good hf h0 h1 ha h
theorem kprints_exp (cv : Value) (f v n : Int) (a m : Nat) (hf : 0 ≤ f ∧ f ≤ 2) (ha : v = (a : Int)) (h1 : v < infN f) (hn : n = (m : Int)) (hm : m ≤ 800) (w : World) (ht : Tab w) :
    Calls Tryz.prog 13 #[cv, .int .i64 v, .int .i64 f, .int .i64 2, .int .i64 n] w fun r w' => TextPost w w' r (ExpQ (awayB 0 false) (valA 3000 f a) m) := by
  have := kexp_any cv f v n 0 hf (by omega) h1 (by omega) (by omega) w ht
  rw [show v.toNat = a from by omega, show n.toNat = m from by omega] at this
  exact prints_of cv v f 2 n _ w this
theorem kprints_fix (cv : Value) (f v n : Int) (a m : Nat) (hf : 0 ≤ f ∧ f ≤ 2) (ha : v = (a : Int)) (h1 : v < infN f) (hn : n = (m : Int)) (hm : m ≤ 800) (w : World) (ht : Tab w) :
    Calls Tryz.prog 13 #[cv, .int .i64 v, .int .i64 f, .int .i64 3, .int .i64 n] w fun r w' => TextPost w w' r (FixQ (awayB 0 false) (valA 3000 f a) m) := by
  have := kfix_any cv f v n 0 hf (by omega) h1 (by omega) (by omega) w ht
  rw [show v.toNat = a from by omega, show n.toNat = m from by omega] at this
  exact prints_of cv v f 3 n _ w this
end Go.Proofs.YtbkdaoicnobllabGreatDoor

namespace Go.Proofs.YtbkdaoicnobllabGreatDoor
open Go.RowKit

theorem str_get (T : List UInt8) (k : Nat) (h : k < T.length) (h' : k < (str T).size) : (str T)[k]'h' = T[k]'h := by
  show (T.toArray)[k] = T[k]'h
  first | rfl | simp
theorem str_one (T : List UInt8) (k : Nat) (h : k < T.length) : (str T).extract k (k + 1) = str [T[k]] := by
  unfold str
  rw [ByteArray.extract_mk, show k + 1 - k = 1 from by omega, List.drop_eq_getElem_cons h]; rfl
set_option maxRecDepth 100000 in
set_option maxHeartbeats 2000000 in
theorem parts_any (T d : List UInt8) (e : Int) (h : Parted T d e) (w : World) :
    Calls Tryz.prog 14 #[.string (str T)] w fun r w' => r = .returned (.tuple #[.string (str d), .int .i64 e]) ∧ w' = w := by
  obtain ⟨A, B, hT, hA, hAl, hB, hBl, hd, he⟩ := h.ex
  have hTl : T.length = A.length + 1 + B.length := by rw [hT]; simp; omega
  have hsz : (str T).size = A.length + 1 + B.length := by rw [str_size, hTl]
  have HA : Hid (∀ k (hk : k < A.length) (h' : k < (str T).size), (str T)[k] = A[k]) := fun k hk h' => by
    rw [str_get T k (by omega)]
    simp only [hT]
    rw [List.getElem_append_left hk]
  have HE : Hid (∀ (h' : A.length < (str T).size), (str T)[A.length] = 101) := fun h' => by
    rw [str_get T _ (by omega)]
    simp only [hT]
    rw [List.getElem_append_right (Nat.le_refl _)]; simp
  have HB : Hid (∀ k (hk : k < B.length) (h' : A.length + 1 + k < (str T).size), (str T)[A.length + 1 + k] = B[k]) := fun k hk h' => by
    rw [str_get T _ (by omega)]
    simp only [hT]
    rw [List.getElem_append_right (by omega)]
    simp [show A.length + 1 + k - A.length = k + 1 from by omega]
  have HX : Hid (∀ k (_ : k < A.length), (str T).extract k (k + 1) = str [A[k]]) := fun k hk => by
    rw [str_one T k (by omega)]
    simp only [hT]
    rw [List.getElem_append_left hk]
  have HNE := hid hA
  have HPB := hid hB
  have HD := hid hd
  have HEE := hid he
  clear hT hTl hA hB hd he h
  obtain ⟨s, hs⟩ : ∃ s, s = str T := ⟨_, rfl⟩
  rw [← hs] at HA HE HB HX hsz ⊢
  clear hs
  go_enter Tryz.func14, Tryz.ntmps14
  go_wp2
  go_loop [4, 5, 6] (fun dd ii bb => ∃ k : Nat, dd = .string (str (keptD A k)) ∧ ii = .int .i64 k ∧ bb = .int .i64 ((keptD A k).length - 1 : Nat) ∧ k ≤ A.length) (fun _ ii _ => A.length - (intOf ii).toNat)
  case atStart => exact ⟨0, rfl, rfl, rfl, Nat.zero_le _⟩
  case round =>
    obtain ⟨k, rfl, rfl, rfl, hk⟩ := hrel
    have hlt : k < s.size := by omega
    have hkl := keptD_len A k hk
    by_cases hka : k < A.length
    · have hc := HA.out k hka hlt
      have hne := HNE.out A[k] (List.getElem_mem hka)
      have t1 : (((s[k].toNat : Nat) : Int) != 101) = true := by
        rw [hc]; simp only [bne_iff_ne, ne_eq]
        intro h0; apply hne; apply UInt8.toNat_inj.1; simp; omega
      have hsd : (str (keptD A k)).size = (keptD A k).length := str_size _
      by_cases hp : A[k] = 46
      · have t2 : (((s[k].toNat : Nat) : Int) != 46) = false := by rw [hc, hp]; rfl
        have HK := hid (keptD_point A k hka hp)
        clear hc hne hp HE HB HX HNE HPB HD HEE
        go_wp2
        go_round
        case rel => exact ⟨k + 1, by rw [HK.out], by go_num, by rw [HK.out], by omega⟩
        case measure => simp [intOf]; omega
      · have t2 : (((s[k].toNat : Nat) : Int) != 46) = true := by
          rw [hc]; simp only [bne_iff_ne, ne_eq]
          intro h0; apply hp; apply UInt8.toNat_inj.1; simp; omega
        have HK := hid (keptD_digit A k hka hp)
        have hX := HX.out k hka
        have hl1 : (str [A[k]]).size = 1 := rfl
        have HJ : Hid (str (keptD A k) ++ str [A[k]] = str (keptD A (k + 1))) := by unfold Hid; rw [HK.out, str_append]
        have hl2 : (keptD A (k + 1)).length = (keptD A k).length + 1 := by rw [HK.out]; simp
        have hJs : (str (keptD A k) ++ str [A[k]]).size = (keptD A k).length + 1 := by rw [HJ.out, str_size, hl2]
        by_cases h0 : (keptD A k).length = 0
        · have t3 : decide ((1 : Int) < (((str (keptD A k) ++ str [A[k]]).size : Nat) : Int)) = false := by rw [hJs]; simp; omega
          clear hc hne hp HE HB HX HNE HPB HD HEE
          go_wp2
          go_round
          case rel => exact ⟨k + 1, by rw [← HJ.out], by go_num, by rw [hl2, h0]; rfl, by omega⟩
          case measure => simp [intOf]; omega
        · have t3 : decide ((1 : Int) < (((str (keptD A k) ++ str [A[k]]).size : Nat) : Int)) = true := by rw [hJs]; simp; omega
          clear hc hne hp HE HB HX HNE HPB HD HEE
          go_wp2
          go_round
          case rel => exact ⟨k + 1, by rw [← HJ.out], by go_num, by rw [hl2, show (keptD A k).length + 1 - 1 = ((keptD A k).length - 1) + 1 from by omega]; go_num, by omega⟩
          case measure => simp [intOf]; omega
    · have hke : k = A.length := by omega
      subst hke
      have t1 : (((s[A.length].toNat : Nat) : Int) != 101) = false := by rw [HE.out hlt]; rfl
      clear hka HA HE HX HNE
      go_wp2
      go_loop [5, 7, 8] (fun ii ee nn => ∃ k : Nat, ii = .int .i64 (A.length + 1 + k : Nat) ∧ ee = .int .i64 (foldE B k).1 ∧ nn = .bool (foldE B k).2 ∧ k ≤ B.length) (fun ii _ _ => A.length + 1 + B.length - (intOf ii).toNat)
      case atStart => exact ⟨0, by go_num, rfl, rfl, Nat.zero_le _⟩
      case round =>
        obtain ⟨k, rfl, rfl, rfl, hk⟩ := hrel
        have hfb := foldE_bd B HPB.out k hk
        have hfb2 : (foldE B k).1 < 100000000 := Nat.lt_of_lt_of_le hfb (by rw [show (100000000 : Nat) = 10 ^ 8 from by decide]; exact Nat.pow_le_pow_right (by omega) (by omega))
        clear hfb
        by_cases hkb : k < B.length
        · have hlt2 : A.length + 1 + k < s.size := by omega
          have hc := HB.out k hkb hlt2
          have HS := hid (foldE_succ B k hkb)
          have hpb := HPB.out B[k] (List.getElem_mem hkb)
          by_cases hm : B[k] = 45
          · have t1 : (((s[A.length + 1 + k].toNat : Nat) : Int) == 45) = true := by rw [hc, hm]; rfl
            have HS2 : Hid (foldE B (k + 1) = ((foldE B k).1, true)) := by
              unfold Hid; rw [HS.out]; unfold stepE; rw [if_pos hm]
            clear hc hpb hm HB HD HEE HS HPB
            go_wp2
            go_round
            case rel => exact ⟨k + 1, by go_num, by rw [HS2.out], by rw [HS2.out], by omega⟩
            case measure => simp [intOf]; omega
          · have hd : 48 ≤ B[k].toNat ∧ B[k].toNat ≤ 57 := by
              rcases hpb with h | h
              · exact absurd h hm
              · exact h
            have t1 : (((s[A.length + 1 + k].toNat : Nat) : Int) == 45) = false := by
              rw [hc]; simp only [beq_eq_false_iff_ne, ne_eq]; omega
            obtain ⟨c, hcc⟩ : ∃ c : Nat, c = B[k].toNat := ⟨_, rfl⟩
            have hc2 : s[A.length + 1 + k].toNat = c := by rw [hc, hcc]
            have hd1 : 48 ≤ (c : Int) := by omega
            have hd2 : (c : Int) ≤ 57 := by omega
            have HS2 : Hid (foldE B (k + 1) = (10 * (foldE B k).1 + (c - 48), (foldE B k).2)) := by
              unfold Hid; rw [HS.out, hcc]; unfold stepE; rw [if_neg hm]
            rw [hc2] at t1
            clear hc hpb hm HB HD HEE HS HPB hd hcc
            go_wp2
            go_round
            case rel => exact ⟨k + 1, by go_num, by rw [HS2.out]; go_num, by rw [HS2.out], by omega⟩
            case measure => simp [intOf]; omega
        · have hke : k = B.length := by omega
          subst hke
          have hl9 := keptD_len A A.length (Nat.le_refl _)
          obtain ⟨E, hE⟩ : ∃ E : Nat, E = (foldE B B.length).1 := ⟨_, rfl⟩
          obtain ⟨Z, hZ⟩ : ∃ Z : Nat, Z = (keptD A A.length).length - 1 := ⟨_, rfl⟩
          have hZ2 : Z ≤ 3000 := by omega
          have HEV : Hid (e = (if (foldE B B.length).2 = true then -(E : Int) else E) - Z) := by
            unfold Hid; rw [HEE.out, hE, hZ]; rfl
          rw [← hE] at hfb2 ⊢
          rw [← hZ]
          cases hb : (foldE B B.length).2 with
          | true =>
            rw [hb, if_pos rfl] at HEV
            clear hkb HB HPB HEE hE hZ hb hl9
            go_wp2
            go_ret2
            exact ⟨by rw [HD.out, HEV.out]; rfl, rfl⟩
          | false =>
            rw [hb, if_neg (by decide)] at HEV
            clear hkb HB HPB HEE hE hZ hb hl9
            go_wp2
            go_ret2
            exact ⟨by rw [HD.out, HEV.out]; rfl, rfl⟩
end Go.Proofs.YtbkdaoicnobllabGreatDoor

namespace Go.Proofs.YtbkdaoicnobllabGreatDoor
open Go.RowKit

/-- Is it a row of digits? -/
def allDig (s : ByteArray) : Bool := decide (chs s ≠ [] ∧ ∀ c, c ∈ chs s → isDig c = true)
theorem mem_chs {s : ByteArray} {i : Nat} (h : i < s.size) : (chs s).getD i 0 ∈ chs s := by
  have hl : i < (chs s).length := by rw [chs_length]; exact h
  rw [List.getD_eq_getElem?_getD, List.getElem?_eq_getElem hl]
  exact List.getElem_mem hl
end Go.Proofs.YtbkdaoicnobllabGreatDoor

namespace Go.Proofs.YtbkdaoicnobllabGreatDoor
open Go.RowKit

/-- A whole number as a text. -/
def NumText (n : Nat) (d : ByteArray) : Prop := (∀ c, c ∈ chs d → isDig c = true) ∧ chs d ≠ [] ∧ expNum (chs d) = n ∧ d.size ≤ 10
def NumPost (n : Nat) (w w' : World) (e : Ending) : Prop := ∃ d : ByteArray, e = .returned (.string d) ∧ NumText n d ∧ Below w.heap.size w w'
/-- The text of one digit. -/
def digT (n : Nat) : ByteArray := ⟨[UInt8.ofNat (48 + n)].toArray⟩
theorem chs_digT (n : Nat) (h : n < 10) : chs (digT n) = [48 + n] := by
  unfold chs digT
  simp
  omega
theorem conv_dig (n : Nat) (h : n < 10) (w : World) :
    (convert 53 9 (.slice (some ⟨w.heap.size, 0, none⟩) 1 1)).run Tryz.prog (w.alloc (.cells #[.int .u8 (48 + (n : Int))] 5)) = .ok (.string (digT n)) (w.alloc (.cells #[.int .u8 (48 + (n : Int))] 5)) := by
  have := run_convert_bytes_back (P := Tryz.prog) (w.alloc (.cells #[.int .u8 (48 + (n : Int))] 5)) 53 9 5 ⟨w.heap.size, 0, none⟩ 1 [UInt8.ofNat (48 + n)] Tryz.underlying53 Tryz.underlying5 Tryz.underlying9 (fun j hj => by
    simp at hj
    subst hj
    have e : (UInt8.ofNat (48 + n)).toNat = 48 + n := by simp; omega
    simp [go_sem, Addr.add]
    omega)
  exact this
theorem numText_digit (n : Nat) (h : n < 10) : NumText n (digT n) := by
  refine ⟨fun c hc => ?_, by rw [chs_digT n h]; simp, ?_, by unfold digT; simp [ByteArray.size]⟩
  · rw [chs_digT n h] at hc
    rw [List.mem_singleton.1 hc]; unfold isDig; simp; omega
  · rw [chs_digT n h]
    have : isDig (48 + n) = true := by unfold isDig; simp; omega
    unfold expNum expStep
    simp [this]
theorem numText_more (n : Nat) (hn : n ≤ 100000) (d : ByteArray) (hd : d.size ≤ 9) (h : NumText (n / 10) d) : NumText n (d ++ digT (n % 10)) := by
  have hc : chs (d ++ digT (n % 10)) = chs d ++ [48 + n % 10] := by
    rw [← chs_digT (n % 10) (by omega)]
    unfold chs
    rw [ByteArray.data_append]; simp
  obtain ⟨h1, h2, h3, _⟩ := h
  have hi : isDig (48 + n % 10) = true := by unfold isDig; simp; omega
  refine ⟨fun c hh => ?_, by rw [hc]; simp, ?_, ?_⟩
  · rw [hc] at hh
    rcases List.mem_append.1 hh with g | g
    · exact h1 c g
    · rw [List.mem_singleton.1 g]; exact hi
  · rw [hc, expNum_snoc, h3]
    unfold expStep
    rw [if_pos ⟨hi, by omega⟩]; omega
  · have e1 : (digT (n % 10)).size = 1 := rfl
    rw [ByteArray.size_append, e1]; omega
set_option maxRecDepth 100000 in
set_option maxHeartbeats 1000000 in
theorem number_small (n : Nat) (hn : n < 10) (w : World) : Calls Tryz.prog 16 #[.int .i64 n] w fun e w' => NumPost n w w' e := by
  have t0 : decide ((n : Int) < 0) = false := by simp
  have t1 : decide ((n : Int) < 10) = true := by simp; omega
  have hm : (n : Int) % 10 = n := by omega
  have hn' : (n : Int) ≤ 9 := by omega
  have hcv := conv_dig n hn w
  have HT := hid (numText_digit n hn)
  clear hn
  go_enter Tryz.func16, Tryz.ntmps16
  go_wp2
  go_ret
  exact ⟨digT n, rfl, HT.out, (Below.refl _ _).alloc (Nat.le_refl _) _⟩
set_option maxRecDepth 100000 in
set_option maxHeartbeats 1000000 in
/-- 'number' of a number that is not below 0; m bounds its digits. -/
theorem number_nat : ∀ (m n : Nat), m ≤ 4 → n < 10 ^ (m + 1) → ∀ w : World, Calls Tryz.prog 16 #[.int .i64 n] w fun e w' => ∃ d : ByteArray, e = .returned (.string d) ∧ (NumText n d ∧ d.size ≤ m + 1) ∧ Below w.heap.size w w' := by
  intro m
  induction m with
  | zero =>
    intro n _ hn w
    have h10 : n < 10 := by simpa using hn
    have t0 : decide ((n : Int) < 0) = false := by simp
    have t1 : decide ((n : Int) < 10) = true := by simp; omega
    have hm : (n : Int) % 10 = n := by omega
    have hn' : (n : Int) ≤ 9 := by omega
    have hcv := conv_dig n h10 w
    have HT := hid (numText_digit n h10)
    clear hn h10
    go_enter Tryz.func16, Tryz.ntmps16
    go_wp2
    go_ret
    exact ⟨digT n, rfl, ⟨HT.out, Nat.le_refl 1⟩, (Below.refl _ _).alloc (Nat.le_refl _) _⟩
  | succ m ih =>
    intro n hm5 hn w
    by_cases h10 : n < 10
    · have t0 : decide ((n : Int) < 0) = false := by simp
      have t1 : decide ((n : Int) < 10) = true := by simp; omega
      have hm : (n : Int) % 10 = n := by omega
      have hn' : (n : Int) ≤ 9 := by omega
      have hcv := conv_dig n h10 w
      have HT := hid (numText_digit n h10)
      clear hn h10 ih
      go_enter Tryz.func16, Tryz.ntmps16
      go_wp2
      go_ret
      exact ⟨digT n, rfl, ⟨HT.out, (by unfold digT; show 1 ≤ m + 1 + 1; omega)⟩, (Below.refl _ _).alloc (Nat.le_refl _) _⟩
    · have hlt : n / 10 < 10 ^ (m + 1) := by
        rw [Nat.div_lt_iff_lt_mul (by omega), ← Nat.pow_succ]; exact hn
      have hle : n < 100000 := Nat.lt_of_lt_of_le hn (Nat.pow_le_pow_right (by omega) (show m + 1 + 1 ≤ 5 by omega))
      obtain ⟨r, hr⟩ : ∃ r, r = n % 10 := ⟨_, rfl⟩
      obtain ⟨q, hq⟩ : ∃ q, q = n / 10 := ⟨_, rfl⟩
      obtain ⟨N, hN⟩ : ∃ N : Int, N = (n : Int) := ⟨_, rfl⟩
      have hr10 : r < 10 := by omega
      have t0 : decide (N < 0) = false := by simp; omega
      have t1 : decide (N < 10) = false := by simp; omega
      have hN0 : 0 ≤ N := by omega
      have hN1 : N ≤ 1000000 := by omega
      have hm : N % 10 = (r : Int) := by omega
      have hd : N / 10 = (q : Int) := by omega
      have hn' : (r : Int) ≤ 9 := by omega
      have hcv := conv_dig r hr10 w
      have HX := hid (ih q (by omega) (by rw [hq]; exact hlt) (w.alloc (.cells #[.int .u8 (48 + (r : Int))] 5)))
      have HM : Hid (∀ d : ByteArray, d.size ≤ 9 → NumText q d → NumText n (d ++ digT r)) := fun d h1 h2 => by
        rw [hr]; exact numText_more n (by omega) d h1 (by rw [← hq]; exact h2)
      have hm5' : m ≤ 4 := by omega
      rw [← hN]
      clear hn h10 ih hr hq hN hlt hle hr10
      go_enter Tryz.func16, Tryz.ntmps16
      go_wp2_with fail
      refine HX.out.mono ?_
      rintro e w1 ⟨d, rfl, ⟨hd1, hd2⟩, hb⟩
      have HT := hid (HM.out d (by omega) hd1)
      have HB : Hid (Below w.heap.size w w1) := ((Below.refl w.heap.size w).alloc (Nat.le_refl _) _).trans (hb.mono (by simp))
      have HD : Hid ((d ++ digT r).size ≤ m + 1 + 1) := by
        have e1 : (digT r).size = 1 := rfl
        unfold Hid; rw [ByteArray.size_append, e1]; omega
      have e1 : (digT r).size = 1 := rfl
      have hds : d.size ≤ 9 := by omega
      clear HX hb hd1 HM hcv
      go_wp2
      go_ret
      exact ⟨d ++ digT r, rfl, ⟨HT.out, HD.out⟩, HB.out⟩
/-- A power as a text. -/
def IntText (x : Int) (d : ByteArray) : Prop := (0 ≤ x ∧ NumText x.toNat d) ∨ (x < 0 ∧ ∃ d', d = ⟨#[45]⟩ ++ d' ∧ NumText (-x).toNat d')
set_option maxRecDepth 100000 in
set_option maxHeartbeats 1000000 in
theorem number_int (x : Int) (h1 : -9999 ≤ x) (h2 : x ≤ 9999) (w : World) : Calls Tryz.prog 16 #[.int .i64 x] w fun e w' => ∃ d : ByteArray, e = .returned (.string d) ∧ (IntText x d ∧ d.size ≤ 6) ∧ Below w.heap.size w w' := by
  by_cases h0 : 0 ≤ x
  · obtain ⟨n, rfl⟩ : ∃ n : Nat, x = (n : Int) := ⟨x.toNat, by omega⟩
    refine (number_nat 3 n (by omega) (by simp; omega) w).mono ?_
    rintro e w' ⟨d, rfl, ⟨hd, hs⟩, hb⟩
    exact ⟨d, rfl, ⟨.inl ⟨h0, by simpa using hd⟩, by omega⟩, hb⟩
  · obtain ⟨n, hn⟩ : ∃ n : Nat, -x = (n : Int) := ⟨(-x).toNat, by omega⟩
    have HX := hid (number_nat 3 n (by omega) (by simp; omega) w)
    have t0 : decide (x < 0) = true := by simp; omega
    have HN : Hid ((-x).toNat = n) := by unfold Hid; omega
    have H0 := hid h0
    clear h0
    go_enter Tryz.func16, Tryz.ntmps16
    go_wp2_with fail
    refine HX.out.mono ?_
    rintro e w1 ⟨d, rfl, ⟨hd, hs⟩, hb⟩
    have HB := hid hb
    have HD := hid hd
    have e1 : (⟨#[45]⟩ : ByteArray).size = 1 := rfl
    have HS : Hid ((⟨#[45]⟩ ++ d : ByteArray).size ≤ 6) := by unfold Hid; rw [ByteArray.size_append, e1]; omega
    clear HX hb hd hn
    go_wp2
    go_ret
    exact ⟨⟨#[45]⟩ ++ d, rfl, ⟨.inr ⟨by have := H0.out; omega, d, rfl, by rw [HN.out]; exact HD.out⟩, HS.out⟩, HB.out⟩
end Go.Proofs.YtbkdaoicnobllabGreatDoor

namespace Go.Proofs.YtbkdaoicnobllabGreatDoor
open Go.RowKit

/-- What a power's text says. -/
theorem int_text {x : Int} {d : ByteArray} (h : IntText x d) : PowT (chs d) ∧ expVal (chs d) = x := by
  rcases h with ⟨h0, h1, h2, h3, _⟩ | ⟨h0, d', rfl, h1, h2, h3, _⟩
  · exact ⟨⟨[], chs d, rfl, .inl rfl, h1, h2⟩, by rw [expVal_dig h1, h3]; omega⟩
  · rw [chs_minus]
    refine ⟨⟨[45], chs d', rfl, .inr (.inr rfl), h1, h2⟩, ?_⟩
    unfold expVal
    rw [if_pos List.mem_cons_self, expNum_skip 45 _ rfl, h3]; omega
theorem int_text_plus {x : Int} {d : ByteArray} (h : IntText x d) (hx : 0 ≤ x) : PowT (43 :: chs d) ∧ expVal (43 :: chs d) = x := by
  rcases h with ⟨h0, h1, h2, h3, _⟩ | ⟨h0, _⟩
  · refine ⟨⟨[43], chs d, rfl, .inr (.inl rfl), h1, h2⟩, ?_⟩
    unfold expVal
    rw [if_neg (fun h45 => by
      rcases List.mem_cons.1 h45 with g | g
      · omega
      · exact absurd (h1 45 g) (by decide)), expNum_skip 43 _ rfl, h3]; omega
  · omega
theorem int_text_noughts {x : Int} {d : ByteArray} (h : IntText x d) (hx : 0 ≤ x) : PowT (48 :: 48 :: chs d) ∧ expVal (48 :: 48 :: chs d) = x := by
  rcases h with ⟨h0, h1, h2, h3, _⟩ | ⟨h0, _⟩
  · have ha : AllD (48 :: 48 :: chs d) := fun c hc => by
      rcases List.mem_cons.1 hc with g | g
      · rw [g]; rfl
      · rcases List.mem_cons.1 g with g | g
        · rw [g]; rfl
        · exact h1 c g
    exact ⟨⟨[], _, rfl, .inl rfl, ha, by simp⟩, by rw [expVal_dig ha, expNum_nought, expNum_nought, h3]; omega⟩
  · omega
end Go.Proofs.YtbkdaoicnobllabGreatDoor
