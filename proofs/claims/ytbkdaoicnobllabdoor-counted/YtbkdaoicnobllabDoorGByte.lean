import Derived.Test.YtbkdaoicnobllabDoorGText
import Derived.Test.YtbkdaoicnobllabDoorGNatC
import Derived.Test.YtbkdaoicnobllabDoorGNatB
import Derived.Test.YtbkdaoicnobllabDoorShelf

namespace Go.Proofs.YtbkdaoicnobllabDoor
open Go.RowKit

theorem Tryd.info_u8 : (Tryd.prog.info? 5).map (fun i => (i.zero, i.size, i.bytes)) = some (some (.int .u8 0), 1, 1) := by kernel_rfl
/-- Bytes as values. -/
def byts (T : List UInt8) : List Value := T.map fun b => Value.int .u8 (b.toNat : Nat)
theorem byts_append (a b : List UInt8) : byts (a ++ b) = byts a ++ byts b := by simp [byts]
theorem byts_length (a : List UInt8) : (byts a).length = a.length := by simp [byts]
/-- A row of bytes that the call owns. -/
def OwnB (w : World) (base : Nat) (v : Value) (T : List UInt8) : Prop := w.ownsRow base 5 1 v T.length (byts T)
theorem OwnB.empty (w : World) : OwnB (w.alloc (.cells #[] 5)) w.heap.size (.slice (some ⟨w.heap.size, 0, none⟩) 0 0) [] :=
  ⟨rfl, .inr ⟨w.heap.size, 0, #[], rfl, Nat.le_refl _, by show (w.heap.push _)[w.heap.size]? = _; simp, Nat.le_refl _, Nat.zero_le _, rfl, rfl⟩⟩
theorem OwnB.owns {w : World} {base : Nat} {v : Value} {T : List UInt8} (h : OwnB w base v T) {k : Nat} (hk : T.length = k) : w.ownsRow base 5 1 v k (byts T) := by subst hk; exact h
theorem OwnB.snoc {w : World} {base : Nat} {v : Value} {T : List UInt8} {k : Nat} {z : Int} {d : UInt8} (h : w.ownsRow base 5 1 v (k + 1) (byts T ++ [.int .u8 z])) (hT : T.length = k) (hz : z = (d.toNat : Nat)) : OwnB w base v (T ++ [d]) := by
  subst hz; unfold OwnB; rw [byts_append]; simp only [List.length_append, List.length_singleton]; rw [hT]; exact h
theorem OwnB.below {w w' : World} {base : Nat} {v : Value} {T : List UInt8} (h : OwnB w base v T) {B : Nat} (hb : Below B w w') (hB : w.heap.size ≤ B) : OwnB w' base v T := by
  refine ⟨h.1, ?_⟩
  rcases h.2 with h2 | ⟨g, cap, cur, hv, hg, hh, r⟩
  · exact .inl h2
  · exact .inr ⟨g, cap, cur, hv, hg, by rw [hb.block g (Nat.lt_of_lt_of_le (Array.getElem?_eq_some_iff.1 hh).1 hB)]; exact hh, r⟩
theorem OwnB.form {w : World} {base : Nat} {v : Value} {T : List UInt8} (h : OwnB w base v T) (hs : ∃ g n cp, v = .slice (some ⟨g, 0, none⟩) n cp) : ∃ g cap, v = .slice (some ⟨g, 0, none⟩) T.length cap ∧ base ≤ g ∧ T.length ≤ cap ∧ cap ≤ maxLen := by
  obtain ⟨g, n, cp, rfl⟩ := hs
  rcases h.2 with ⟨h2, _⟩ | ⟨g', cap, cur, hv, hb, hg, h1, h2, _⟩
  · cases h2
  · exact ⟨g', cap, hv, hb, h1, h2⟩
theorem OwnB.someS {w : World} {base : Nat} {v : Value} {T : List UInt8} (h : OwnB w base v T) (hl : 0 < T.length) : ∃ g n cp, v = .slice (some ⟨g, 0, none⟩) n cp := by
  rcases h.2 with ⟨_, h2⟩ | ⟨g', cap, cur, hv, _⟩
  · omega
  · exact ⟨g', _, cap, hv⟩
theorem byts_getElem? (T : List UInt8) (j : Nat) (h : j < T.length) : (byts T)[j]? = some (.int .u8 (T[j].toNat : Nat)) := by
  unfold byts; rw [List.getElem?_map, List.getElem?_eq_getElem h]; rfl
/-- A row of bytes as a string. -/
theorem OwnB.conv {w : World} {base g n cap : Nat} {T : List UInt8} (h : OwnB w base (.slice (some ⟨g, 0, none⟩) n cap) T) (hn : T.length = n) :
    (convert 72 9 (.slice (some ⟨g, 0, none⟩) n cap)).run Tryd.prog w = .ok (.string (str T)) w := by
  subst hn
  exact run_convert_bytes_back (P := Tryd.prog) w 72 9 5 ⟨g, 0, none⟩ cap T Tryd.underlying72 Tryd.underlying5 Tryd.underlying9 (fun j hj => by
    have h1 := World.ownsRow.cellAt h j (by omega)
    rw [byts_getElem? T j hj] at h1
    have e : (Addr.add ⟨g, 0, none⟩ j) = ⟨g, j, none⟩ := by unfold Addr.add; by_cases h0 : j = 0 <;> simp [h0]
    rw [e]; exact h1)
/-- The table of the library's. -/
def Tab (w : World) : Prop := Lib.TabIs Tryd.prog w "internal/strconv.uint64pow10" .u64 Lib.pow10Tab
theorem Tab.below {w w' : World} (h : Tab w) (hb : Below w.heap.size w w') : Tab w' := by
  unfold Tab Lib.TabIs World.var? at h ⊢
  rw [show Tryd.prog.globalNamed "internal/strconv.uint64pow10" = some 0 from by kernel_rfl] at h ⊢
  simp only [Option.bind_some] at h ⊢
  have hlt : 0 < w.heap.size := by
    rcases Nat.lt_or_ge 0 w.heap.size with h' | h'
    · exact h'
    · rw [Array.getElem?_eq_none h'] at h; cases h
  rw [hb.block _ hlt]; exact h
theorem grow_below (w : World) (k : Nat) (os : Array Obj) : Below w.heap.size w (Sort.grow (w.drewN k) os) :=
  ⟨rfl, rfl, rfl, by show w.heap.size ≤ (w.heap ++ os).size; simp, fun j hj => by show (w.heap ++ os)[j]? = _; rw [Array.getElem?_append_left hj]⟩
theorem itoa_any (n : Int) (h0 : -9223372036854775808 ≤ n) (h1 : n ≤ 9223372036854775807) (w : World) (ht : Tab w) : Calls Tryd.prog 41 #[.int .i64 n] w fun e w' => e = .returned (.string (str (Lib.itoa n))) ∧ Below w.heap.size w w' := by
  refine (Tryd.strconv_Itoa n h0 h1 w ht).mono ?_
  rintro e w' ⟨rfl, k, os, rfl⟩
  exact ⟨rfl, grow_below w k os⟩
theorem hexD_toNat (d : Nat) (h : d < 16) : (hexD d).toNat = if d < 10 then 48 + d else 87 + d := by
  unfold hexD
  split <;> simp <;> omega
set_option maxRecDepth 100000 in
set_option maxHeartbeats 1000000 in
theorem digitByte_any (d : Nat) (hd : d < 16) (w : World) : Calls Tryd.prog 40 #[.int .i64 d] w fun e w' => e = .returned (.int .u8 ((hexD d).toNat : Nat)) ∧ w' = w := by
  have HT := hid (hexD_toNat d hd)
  by_cases h : d < 10
  · rw [if_pos h] at HT
    go_enter Tryd.func40, Tryd.ntmps40
    go_wp2
    go_ret
    exact ⟨ret_int (by rw [HT.out]; simp), rfl⟩
  · rw [if_neg h] at HT
    go_enter Tryd.func40, Tryd.ntmps40
    go_wp2
    go_ret
    exact ⟨ret_int (by rw [HT.out]; simp; omega), rfl⟩
end Go.Proofs.YtbkdaoicnobllabDoor
