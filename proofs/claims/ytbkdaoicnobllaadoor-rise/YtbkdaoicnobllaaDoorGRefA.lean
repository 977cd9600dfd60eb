import Derived.Test.YtbkdaoicnobllaaDoorProg
import Derived.Test.YtbkdaoicnobllaaDoorGMem
import Derived.WalkSpells
import Derived.WalkLawsBesides
import Derived.WalkKit
import Derived.Test.YtbkdaoicnobllaaDoorGMath
import Derived.Deep.QuietTactic
import Derived.BigQuiet

namespace Go.Proofs.YtbkdaoicnobllaaDoor
open Go.RowKit

theorem zero_any (v : Value) (L : List Nat) (e : Int) (w : World) (hr : Row w v L) :
    Calls Tryd.prog 48 #[.agg #[v, .int .i64 e]] w fun r w' => r = .returned (.bool (decide (L.length = 0))) ∧ Below w.heap.size w w' := by
  rcases hr with ⟨rfl, rfl⟩ | ⟨b, off, cap, rfl, h1, h2, h3, h4⟩
  · go_enter Tryd.func48, Tryd.ntmps48
    go_wp2
    go_ret
    exact ⟨by rfl, (Below.refl _ _).alloc (Nat.le_refl _) _⟩
  · clear h4
    go_enter Tryd.func48, Tryd.ntmps48
    go_wp2
    go_ret
    exact ⟨congrArg (fun b => Ending.returned (Value.bool b)) (by rw [Bool.eq_iff_iff]; simp), (Below.refl _ _).alloc (Nat.le_refl _) _⟩

theorem zero_yes (v : Value) (L : List Nat) (e : Int) (w : World) (hr : Row w v L) (h : L.length = 0) :
    Calls Tryd.prog 48 #[.agg #[v, .int .i64 e]] w fun r w' => r = .returned (.bool true) ∧ Below w.heap.size w w' := by
  have := zero_any v L e w hr
  rwa [show decide (L.length = 0) = true from by simpa using h] at this
theorem zero_no (v : Value) (L : List Nat) (e : Int) (w : World) (hr : Row w v L) (h : ¬ L.length = 0) :
    Calls Tryd.prog 48 #[.agg #[v, .int .i64 e]] w fun r w' => r = .returned (.bool false) ∧ Below w.heap.size w w' := by
  have := zero_any v L e w hr
  rwa [show decide (L.length = 0) = false from by simpa using h] at this

theorem top_any (v : Value) (L : List Nat) (e : Int) (w : World) (hr : Row w v L) (hl : L.length ≤ 1000000) (he : -1000000 ≤ e ∧ e ≤ 1000000) :
    Calls Tryd.prog 33 #[.agg #[v, .int .i64 e]] w fun r w' => r = .returned (.int .i64 (e + L.length - 1)) ∧ Below w.heap.size w w' := by
  rcases hr with ⟨rfl, rfl⟩ | ⟨b, off, cap, rfl, h1, h2, h3, h4⟩
  · go_enter Tryd.func33, Tryd.ntmps33
    go_wp2
    go_ret
    exact ⟨ret_int (by simp), (Below.refl _ _).alloc (Nat.le_refl _) _⟩
  · clear h4
    go_enter Tryd.func33, Tryd.ntmps33
    go_wp2
    go_ret
    exact ⟨ret_int (by simp), (Below.refl _ _).alloc (Nat.le_refl _) _⟩

theorem at_any (v : Value) (L : List Nat) (e p : Int) (w : World) (hr : Row w v L) (hl : L.length ≤ 1000000) (he : -1000000 ≤ e ∧ e ≤ 1000000) (hp : -1000000 ≤ p ∧ p ≤ 1000000) :
    Calls Tryd.prog 44 #[.agg #[v, .int .i64 e], .int .i64 p] w fun r w' => r = .returned (.int .i64 (dig L e p : Nat)) ∧ Below w.heap.size w w' := by
  rcases hr with ⟨rfl, rfl⟩ | ⟨b, off, cap, rfl, h1, h2, h3, h4⟩
  · have H0 : Hid (dig [] e p = 0) := by unfold Hid dig; split <;> simp
    go_enter Tryd.func44, Tryd.ntmps44
    go_wp2
    all_goals go_ret
    all_goals exact ⟨ret_int (by rw [H0.out]; rfl), (Below.refl _ _).alloc (Nat.le_refl _) _⟩
  · by_cases hlo : p < e
    · have H0 : Hid (dig L e p = 0) := dig_lo L hlo
      clear h4
      go_enter Tryd.func44, Tryd.ntmps44
      go_wp2
      all_goals go_ret
      all_goals exact ⟨ret_int (by rw [H0.out]; rfl), (Below.refl _ _).alloc (Nat.le_refl _) _⟩
    · by_cases hhi : e + L.length ≤ p
      · have H0 : Hid (dig L e p = 0) := dig_hi L hhi
        clear h4
        go_enter Tryd.func44, Tryd.ntmps44
        go_wp2
        all_goals go_ret
        all_goals exact ⟨ret_int (by rw [H0.out]; rfl), (Below.refl _ _).alloc (Nat.le_refl _) _⟩
      · obtain ⟨j, hj⟩ : ∃ j : Nat, (j : Int) = L.length - 1 - (p - e) := ⟨(L.length - 1 - (p - e)).toNat, by omega⟩
        have h0 := dig_mid L (by omega) (by omega) j hj
        have h5 := h4 j (by omega)
        have h6 : (L.length : Int) - 1 - (p - e) = j := hj.symm
        have H0 : Hid (dig L e p = L.getD j 0) := h0
        clear h4 hj h0
        go_enter Tryd.func44, Tryd.ntmps44
        go_wp2
        all_goals go_ret
        all_goals exact ⟨ret_int (by rw [H0.out]; simp), (Below.refl _ _).alloc (Nat.le_refl _) _⟩

end Go.Proofs.YtbkdaoicnobllaaDoor

namespace Go.Proofs.YtbkdaoicnobllaaDoor
open Go.RowKit

set_option maxHeartbeats 400000 in
theorem made_nil (e : Int) (w : World) :
    Calls Tryd.prog 68 #[.slice none 0 0, .int .i64 e] w fun r w' => r = .returned (.agg #[.slice none 0 0, .int .i64 0]) ∧ Below w.heap.size w w' := by
  go_enter Tryd.func68, Tryd.ntmps68
  go_wp2
  go_loop [5] (fun a => a = .int .i64 0) (fun _ => 0)
  case atStart => rfl
  case round =>
    subst hrel
    go_wp2
    go_loop [6, 1] (fun z x => z = .int .i64 0 ∧ x = .int .i64 e) (fun _ _ => 0)
    case atStart => exact ⟨rfl, rfl⟩
    case round =>
      obtain ⟨rfl, rfl⟩ := hrel
      go_wp2
      exact bodyPost_ret (v := .agg #[.slice none 0 0, .int .i64 0]) (by simp [results, Tryd.results68, go_sem]) rfl ⟨rfl, ((Below.refl _ _).alloc (Nat.le_refl _) _)⟩

set_option maxHeartbeats 400000 in
theorem made_some (b off cap : Nat) (L : List Nat) (e : Int) (w : World) (h1 : L.length ≤ cap) (_h2 : cap ≤ maxLen) (h3 : b < w.heap.size)
    (h4 : ∀ j, j < L.length → w.cell? ⟨b, off + j, none⟩ = some (.int .i64 (L.getD j 0 : Nat))) (hl : L.length ≤ 1000000) (he : -1000000 ≤ e ∧ e ≤ 1000000) :
    Calls Tryd.prog 68 #[.slice (some ⟨b, off, none⟩) L.length cap, .int .i64 e] w fun r w' => Below w.heap.size w w' ∧
      ((r = .returned (.agg #[.slice none 0 0, .int .i64 0]) ∧ ∀ j, j < L.length → L.getD j 0 = 0) ∨
       ∃ a z : Nat, a < z ∧ z ≤ L.length ∧ (∀ j, j < a → L.getD j 0 = 0) ∧ (∀ j, z ≤ j → j < L.length → L.getD j 0 = 0) ∧ L.getD a 0 ≠ 0 ∧ L.getD (z - 1) 0 ≠ 0 ∧
         r = .returned (.agg #[.slice (some ⟨b, off + a, none⟩) (z - a) (cap - a), .int .i64 (e + (L.length - z))])) := by
  unfold maxLen at _h2
  obtain ⟨n, hn⟩ : ∃ n, n = L.length := ⟨_, rfl⟩
  rw [← hn] at h1 h4 hl ⊢
  have HN : Hid (n = L.length) := hn
  clear hn
  have H4 : Hid (∀ j, j < n → w.cell? ⟨b, off + j, none⟩ = some (.int .i64 (L.getD j 0 : Nat))) := h4
  clear h4
  go_enter Tryd.func68, Tryd.ntmps68
  go_wp2
  go_loop [5] (fun a => ∃ k : Nat, k ≤ n ∧ a = .int .i64 k ∧ Hid (∀ j, j < k → L.getD j 0 = 0)) (fun a => n - (intOf a).toNat)
  case atStart => exact ⟨0, Nat.zero_le _, rfl, fun j hj => absurd hj (Nat.not_lt_zero _)⟩
  case round =>
    obtain ⟨k, hk, rfl, H5⟩ := hrel
    by_cases hgo : k < n ∧ L.getD k 0 = 0
    · obtain ⟨hlt, hz⟩ := hgo
      have hc := H4.out k hlt
      rw [hz] at hc
      have H6 : Hid (L.getD k 0 = 0) := hz
      clear hz
      go_wp2
      go_round
      case rel => exact ⟨k + 1, by omega, by go_num, fun j hj => if h : j = k then h ▸ H6.out else H5.out j (by omega)⟩
      case measure => simp [intOf]; omega
    · have H7 : Hid (¬ (k < n ∧ L.getD k 0 = 0)) := hgo
      clear hgo
      obtain ⟨x, hx⟩ : ∃ x, x = L.getD k 0 := ⟨_, rfl⟩
      have hc : k < n → w.cell? ⟨b, off + k, none⟩ = some (.int .i64 (x : Nat)) := fun h => by rw [hx]; exact H4.out k h
      have hx0 : k < n → ((x : Int) == 0) = false := fun h => by
        have := H7.out; rw [beq_eq_false_iff_ne]; intro h0; exact this ⟨h, by omega⟩
      have HX : Hid (x = L.getD k 0) := hx
      clear hx
      by_cases hlt : k < n
      all_goals
        try (have hc := hc hlt)
        try (have hx0 := hx0 hlt)
        go_wp2
        go_loop [6, 1] (fun z x => ∃ m : Nat, k ≤ m ∧ m ≤ n ∧ z = .int .i64 m ∧ x = .int .i64 (e + (n - m)) ∧ Hid (∀ j, m ≤ j → j < n → L.getD j 0 = 0)) (fun z _ => (intOf z).toNat)
        case atStart => exact ⟨n, by omega, Nat.le_refl _, rfl, by simp, fun j h1 h2 => by omega⟩
        case round =>
          obtain ⟨m, hm1, hm2, rfl, rfl, H8⟩ := hrel
          by_cases hgo : k < m ∧ L.getD (m - 1) 0 = 0
          · obtain ⟨hkm, hz⟩ := hgo
            have hc2 := H4.out (m - 1) (by omega)
            rw [hz] at hc2
            have H9 : Hid (L.getD (m - 1) 0 = 0) := hz
            clear hz
            go_wp2
            go_round
            case rel => exact ⟨m - 1, by omega, by omega, by go_num, by go_num, fun j h1 h2 => if h : j = m - 1 then h ▸ H9.out else H8.out j (by omega) h2⟩
            case measure => simp [intOf]; omega
          · have H9 : Hid (¬ (k < m ∧ L.getD (m - 1) 0 = 0)) := hgo
            clear hgo
            obtain ⟨y, hy⟩ : ∃ y, y = L.getD (m - 1) 0 := ⟨_, rfl⟩
            have hcy : k < m → w.cell? ⟨b, off + (m - 1), none⟩ = some (.int .i64 (y : Nat)) := fun h => by rw [hy]; exact H4.out (m - 1) (by omega)
            have hy0 : k < m → ((y : Int) == 0) = false := fun h => by
              have := H9.out; rw [beq_eq_false_iff_ne]; intro h0; exact this ⟨h, by omega⟩
            have HY : Hid (y = L.getD (m - 1) 0) := hy
            clear hy
            by_cases hkm : k < m
            · have hcy := hcy hkm
              have hy0 := hy0 hkm
              go_wp2
              all_goals exact bodyPost_ret (v := .agg #[.slice (some ⟨b, off + k, none⟩) (m - k) (cap - k), .int .i64 (e + (n - m))]) (by simp [results, Tryd.results68, go_sem]) rfl ⟨((Below.refl _ _).alloc (Nat.le_refl _) _), .inr ⟨k, m, hkm, hm2, H5.out, H8.out, fun h0 => H7.out ⟨by omega, h0⟩, fun h0 => H9.out ⟨hkm, h0⟩, rfl⟩⟩
            · go_wp2
              exact bodyPost_ret (v := .agg #[.slice none 0 0, .int .i64 0]) (by simp [results, Tryd.results68, go_sem]) rfl ⟨((Below.refl _ _).alloc (Nat.le_refl _) _), .inl ⟨rfl, fun j hj => if h : j < k then H5.out j h else H8.out j (by omega) hj⟩⟩

/-- 'made': the same number without noughts at its ends. -/
theorem made_any (v : Value) (L : List Nat) (e : Int) (w : World) (hr : Row w v L) (hd : Digs L) (hl : L.length ≤ 1000000) (he : -1000000 ≤ e ∧ e ≤ 1000000) :
    Calls Tryd.prog 68 #[v, .int .i64 e] w fun r w' => Below w.heap.size w w' ∧
      ∃ v' L' e', r = .returned (.agg #[v', .int .i64 e']) ∧ Out w' v' L' e' L.length e (e + L.length) (fun g => v.ownBlock = some g) (fun K => val K L e) := by
  rcases hr with ⟨rfl, rfl⟩ | ⟨b, off, cap, rfl, h1, h2, h3, h4⟩
  · refine (made_nil e w).mono ?_
    rintro r w' ⟨rfl, hb⟩
    exact ⟨hb, _, [], 0, rfl, Row.nil _, fun g hg => hg, norm_nil, Nat.le_refl _, fun _ => rfl, fun h => absurd rfl h, fun K hK => by simp [val_nil]⟩
  · refine (made_some b off cap L e w h1 h2 h3 h4 hl he).mono ?_
    rintro r w' ⟨hb, ⟨rfl, hz⟩ | ⟨a, z, haz, hz, ha0, hz0, ha, hzl, rfl⟩⟩
    · exact ⟨hb, _, [], 0, rfl, Row.nil _, fun g hg => by simp [Value.ownBlock] at hg, norm_nil, Nat.zero_le _, fun _ => rfl, fun h => absurd rfl h, fun K hK => by simp [val, num_all_zero L hz, num_nil]⟩
    · have hlen : ((L.take z).drop a).length = z - a := by simp; omega
      refine ⟨hb, _, (L.take z).drop a, _, rfl, .inr ⟨b, off + a, cap - a, by rw [hlen], by omega, by omega, by have := hb.size; omega, fun j hj => ?_⟩, fun g hg => hg, made_norm L a z haz hz hd ha hzl, by omega, fun h => ?_, fun _ => by omega, fun K hK => made_val L a z haz hz ha0 hz0 K e hK⟩
      · rw [made_getD L a z j (by omega), (hb.cell (p := ⟨b, off + a + j, none⟩) (by exact h3)), Nat.add_assoc]; exact h4 (a + j) (by omega)
      · rw [h] at hlen; simp at hlen; omega

end Go.Proofs.YtbkdaoicnobllaaDoor

namespace Go.Proofs.YtbkdaoicnobllaaDoor
open Go.RowKit

theorem Tryd.info_int : (Tryd.prog.info? 3).map (fun i => (i.zero, i.size, i.bytes)) = some (some (.int .i64 0), 1, 8) := by kernel_rfl

theorem two_cells {w : World} {B : Nat} {x y x0 y0 : Value} (c0 : w.cell? ⟨B, 0, none⟩ = some x0) (c1 : w.cell? ⟨B, 1, none⟩ = some y0) :
    ((w.setCell ⟨B, 0, none⟩ x).setCell ⟨B, 1, none⟩ y).cell? ⟨B, 0, none⟩ = some x ∧ ((w.setCell ⟨B, 0, none⟩ x).setCell ⟨B, 1, none⟩ y).cell? ⟨B, 1, none⟩ = some y := by
  constructor
  · rw [World.cell?_setCell_other _ _ _ _ (by simp)]
    exact World.cell?_setCell_same' _ _ _ (by rw [c0]; rfl)
  · exact World.cell?_setCell_same' _ _ _ (by rw [World.cell?_setCell_other _ _ _ _ (by simp), c1]; rfl)

theorem dec_results {fn : Func} {p : Tmp} (h : fn.results = #[.cell p 60]) (tmps : Array Value) (w : World) (B : Nat) (x y : Value) (hp : tmps.getD p undef = .pointer (some ⟨B, 0, none⟩))
    (c0 : w.cell? ⟨B, 0, none⟩ = some x) (c1 : w.cell? ⟨B, 1, none⟩ = some y) : (results fn tmps).run Tryd.prog w = .ok (.agg #[x, y]) w := by
  have hp' : tmps[p]?.getD undef = .pointer (some ⟨B, 0, none⟩) := by rw [← Array.getD_eq_getD_getElem?]; exact hp
  simp [results, h, hp', go_sem, c0, c1]

/-- Two boxes of two cells each, in a later world. -/
theorem box4 {w w' : World} {x1 y1 x2 y2 : Value} {t1 t2 : TypeId} (hb : Below (w.heap.size + 2) ((w.alloc (.cells #[x1, y1] t1)).alloc (.cells #[x2, y2] t2)) w') :
    w'.cell? ⟨w.heap.size, 0, none⟩ = some x1 ∧ w'.cell? ⟨w.heap.size, 1, none⟩ = some y1 ∧ w'.cell? ⟨w.heap.size + 1, 0, none⟩ = some x2 ∧ w'.cell? ⟨w.heap.size + 1, 1, none⟩ = some y2 ∧
    w'.frozen? ⟨w.heap.size, 0, none⟩ = false ∧ w'.frozen? ⟨w.heap.size, 1, none⟩ = false ∧ w'.frozen? ⟨w.heap.size + 1, 0, none⟩ = false ∧ w'.frozen? ⟨w.heap.size + 1, 1, none⟩ = false ∧ w.heap.size + 2 ≤ w'.heap.size := by
  refine ⟨?_, ?_, ?_, ?_, ?_, ?_, ?_, ?_, ?_⟩
  · exact (hb.cell (p := ⟨w.heap.size, 0, none⟩) (by simp)).trans (by simp [go_sem])
  · exact (hb.cell (p := ⟨w.heap.size, 1, none⟩) (by simp)).trans (by simp [go_sem])
  · exact (hb.cell (p := ⟨w.heap.size + 1, 0, none⟩) (by simp)).trans (by simp [go_sem])
  · exact (hb.cell (p := ⟨w.heap.size + 1, 1, none⟩) (by simp)).trans (by simp [go_sem])
  · exact (hb.frozen (p := ⟨w.heap.size, 0, none⟩) (by simp)).trans (by simp [go_sem])
  · exact (hb.frozen (p := ⟨w.heap.size, 1, none⟩) (by simp)).trans (by simp [go_sem])
  · exact (hb.frozen (p := ⟨w.heap.size + 1, 0, none⟩) (by simp)).trans (by simp [go_sem])
  · exact (hb.frozen (p := ⟨w.heap.size + 1, 1, none⟩) (by simp)).trans (by simp [go_sem])
  · have := hb.size; simpa using this
theorem box4_below {w : World} {o1 o2 : Obj} : Below w.heap.size w ((w.alloc o1).alloc o2) := ((Below.refl _ _).alloc (Nat.le_refl _) _).alloc (by simp) _
theorem box4_up {w w' : World} {o1 o2 : Obj} (hb : Below (w.heap.size + 2) ((w.alloc o1).alloc o2) w') : Below w.heap.size w w' := box4_below.trans (hb.mono (by omega))
theorem box4_start {w w' : World} {o1 o2 : Obj} (hb : Below ((w.alloc o1).alloc o2).heap.size ((w.alloc o1).alloc o2) w') : Below (w.heap.size + 2) ((w.alloc o1).alloc o2) w' := hb.mono (by simp)
theorem below_next {B : Nat} {w w1 w2 : World} (h : Below B w w1) (h2 : Below w1.heap.size w1 w2) (hB : B ≤ w1.heap.size) : Below B w w2 := h.trans (h2.mono hB)

/-- Three boxes of two cells each, in a later world. -/
theorem box6 {w w' : World} {x1 y1 x2 y2 x3 y3 : Value} {t1 t2 t3 : TypeId} (hb : Below (w.heap.size + 3) (((w.alloc (.cells #[x1, y1] t1)).alloc (.cells #[x2, y2] t2)).alloc (.cells #[x3, y3] t3)) w') :
    w'.cell? ⟨w.heap.size, 0, none⟩ = some x1 ∧ w'.cell? ⟨w.heap.size, 1, none⟩ = some y1 ∧ w'.cell? ⟨w.heap.size + 1, 0, none⟩ = some x2 ∧ w'.cell? ⟨w.heap.size + 1, 1, none⟩ = some y2 ∧
    w'.cell? ⟨w.heap.size + 1 + 1, 0, none⟩ = some x3 ∧ w'.cell? ⟨w.heap.size + 1 + 1, 1, none⟩ = some y3 ∧
    w'.frozen? ⟨w.heap.size + 1 + 1, 0, none⟩ = false ∧ w'.frozen? ⟨w.heap.size + 1 + 1, 1, none⟩ = false ∧ w.heap.size + 3 ≤ w'.heap.size := by
  have h1 : ((w.alloc (.cells #[x1, y1] t1)).alloc (.cells #[x2, y2] t2)).heap.size = w.heap.size + 2 := by simp
  have hb2 : Below (w.heap.size + 2) ((w.alloc (.cells #[x1, y1] t1)).alloc (.cells #[x2, y2] t2)) w' := ((Below.refl _ _).alloc (by omega) _).trans (hb.mono (by omega))
  obtain ⟨a, b, c, d, _⟩ := box4 hb2
  refine ⟨a, b, c, d, ?_, ?_, ?_, ?_, ?_⟩
  · exact (hb.cell (p := ⟨w.heap.size + 1 + 1, 0, none⟩) (by simp)).trans (by rw [show w.heap.size + 1 + 1 = ((w.alloc (.cells #[x1, y1] t1)).alloc (.cells #[x2, y2] t2)).heap.size from by omega]; exact World.cell?_alloc_new _ _ _ _)
  · exact (hb.cell (p := ⟨w.heap.size + 1 + 1, 1, none⟩) (by simp)).trans (by rw [show w.heap.size + 1 + 1 = ((w.alloc (.cells #[x1, y1] t1)).alloc (.cells #[x2, y2] t2)).heap.size from by omega]; exact World.cell?_alloc_new _ _ _ _)
  · exact (hb.frozen (p := ⟨w.heap.size + 1 + 1, 0, none⟩) (by simp)).trans (by rw [show w.heap.size + 1 + 1 = ((w.alloc (.cells #[x1, y1] t1)).alloc (.cells #[x2, y2] t2)).heap.size from by omega]; simp [go_sem])
  · exact (hb.frozen (p := ⟨w.heap.size + 1 + 1, 1, none⟩) (by simp)).trans (by rw [show w.heap.size + 1 + 1 = ((w.alloc (.cells #[x1, y1] t1)).alloc (.cells #[x2, y2] t2)).heap.size from by omega]; simp [go_sem])
  · have := hb.size; simpa using this
theorem box6_below {w : World} {o1 o2 o3 : Obj} : Below w.heap.size w (((w.alloc o1).alloc o2).alloc o3) := box4_below.alloc (by simp; omega) _
theorem box6_up {w w' : World} {o1 o2 o3 : Obj} (hb : Below (w.heap.size + 3) (((w.alloc o1).alloc o2).alloc o3) w') : Below w.heap.size w w' := box6_below.trans (hb.mono (by omega))
theorem box6_start {w w' : World} {o1 o2 o3 : Obj} (hb : Below (((w.alloc o1).alloc o2).alloc o3).heap.size (((w.alloc o1).alloc o2).alloc o3) w') : Below (w.heap.size + 3) (((w.alloc o1).alloc o2).alloc o3) w' := hb.mono (by simp)
/-- Two stores into one block. -/
theorem below_two {B : Nat} {a w : World} (h : Below B a w) {b : Nat} (hb : B ≤ b) (x y : Value) : Below B a ((w.setCell ⟨b, 0, none⟩ x).setCell ⟨b, 1, none⟩ y) := (h.setCell (p := ⟨b, 0, none⟩) hb x).setCell (p := ⟨b, 1, none⟩) hb y

end Go.Proofs.YtbkdaoicnobllaaDoor

namespace Go.Proofs.YtbkdaoicnobllaaDoor
open Go.RowKit

set_option maxRecDepth 100000 in
set_option maxHeartbeats 1000000 in
theorem times_some (b off cap n : Nat) (L : List Nat) (e : Int) (w : World) (h1 : L.length ≤ cap) (_h2 : cap ≤ maxLen) (h3 : b < w.heap.size)
    (h4 : ∀ j, j < L.length → w.cell? ⟨b, off + j, none⟩ = some (.int .i64 (L.getD j 0 : Nat))) (hd : Digs L) (hl : L.length ≤ 900000) (he : -900000 ≤ e ∧ e ≤ 900000) (hn : n ≤ 36028797018963968) :
    Calls Tryd.prog 42 #[.agg #[.slice (some ⟨b, off, none⟩) L.length cap, .int .i64 e], .int .i64 n] w fun r w' => Below w.heap.size w w' ∧
      ∃ v' L' e', r = .returned (.agg #[v', .int .i64 e']) ∧ Out w' v' L' e' (L.length + 17) e (e + L.length + 17) (fun g => w.heap.size + 2 ≤ g) (fun K => val K L e * n) := by
  unfold maxLen at _h2
  obtain ⟨m, hm⟩ : ∃ m, m = L.length := ⟨_, rfl⟩
  rw [← hm] at h1 h4 hl ⊢
  have HM : Hid (m = L.length) := hm
  clear hm
  have H4 : Hid (∀ j, j < m → w.cell? ⟨b, off + j, none⟩ = some (.int .i64 (L.getD j 0 : Nat))) := h4
  have HD : Hid (Digs L) := hd
  clear h4 hd
  obtain ⟨i0, hi, hz0, hz1, hz2⟩ := info_parts Tryd.info_int
  go_enter Tryd.func42, Tryd.ntmps42
  go_wp2
  go_loopw [5, 6, 7] (fun o c i wr => ∃ k c' : Nat, ∃ O : List Nat, k ≤ m ∧ i = .int .i64 ((m : Int) - 1 - k) ∧ c = .int .i64 c' ∧ c' ≤ n ∧ O.length = k ∧ Digs O ∧ Own wr (w.heap.size + 2) o O ∧
      Hid (le O + c' * 10 ^ k = le (L.reverse.take k) * n) ∧ Below (w.heap.size + 2) ((w.alloc (.cells #[.slice (some ⟨b, off, none⟩) m cap, .int .i64 e] 60)).alloc (.cells #[.slice none 0 0, .int .i64 0] 60)) wr)
    (fun _ _ i _ => (intOf i + 1).toNat)
  case atStart => exact ⟨0, 0, [], by omega, by go_num, rfl, by omega, rfl, Digs.nil, Own.nil _ _, by simp [Hid, le], Below.refl _ _⟩
  case round =>
    obtain ⟨k, c, O, hk, rfl, rfl, hc, hO, hdO, hown, HL, hb⟩ := hrel
    have hsz := hb.size
    simp at hsz
    have ca : wr.cell? ⟨w.heap.size, 0, none⟩ = some (.slice (some ⟨b, off, none⟩) m cap) := (hb.cell (p := ⟨w.heap.size, 0, none⟩) (by simp)).trans (by simp [go_sem])
    have cb : wr.cell? ⟨w.heap.size, 1, none⟩ = some (.int .i64 e) := (hb.cell (p := ⟨w.heap.size, 1, none⟩) (by simp)).trans (by simp [go_sem])
    by_cases hlt : k < m
    · obtain ⟨x, hx⟩ : ∃ x, x = L.getD (m - 1 - k) 0 := ⟨_, rfl⟩
      have hx9 : x ≤ 9 := by rw [hx]; exact HD.out.getD _
      have hcx : wr.cell? ⟨b, off + (m - 1 - k), none⟩ = some (.int .i64 x) := by
        rw [hx, hb.cell (p := ⟨b, off + (m - 1 - k), none⟩) (by show b < _; omega)]; simp [go_sem, h3]; exact H4.out _ (by omega)
      have hp1 : (0 : Int) ≤ (x : Int) * n := Int.mul_nonneg (by omega) (by omega)
      have hp2 : (x : Int) * n ≤ 9 * n := Int.mul_le_mul_of_nonneg_right (by omega) (by omega)
      have HX : Hid (x = L.getD (m - 1 - k) 0) := hx
      clear hx
      have hown' : wr.ownsRow (w.heap.size + 2) 3 1 u5 k (ints O) := by have := hown; unfold Own at this; rwa [hO] at this
      clear hown
      go_wp2_with (at_builtin; refine wpList_append_own _ rfl (.tmp 28) (.tmp 31) 40 rfl (w.heap.size + 2) 3 i0 (.int .i64 0) 1 8 Tryd.underlying40 hi hz0 hz1 hz2 rfl (by decide) _ _ _ rfl (hown'.alloc _) ⟨wr.heap.size, 0, none⟩ 1 1 [.int .i64 (((x : Int) * n + c) % 10)] rfl rfl ?c1 ?c2 ?c3 ?c4 ?c5 ?_)
      case c1 => exact cell_one_new _ _ _
      case c2 => intro u hu; simp at hu; subst hu; rfl
      case c3 => unfold maxLen; omega
      case c4 => omega
      case c5 => simp; omega
      intro v' w1 hown1 hgrow _
      have hb1 : Below (w.heap.size + 2) ((w.alloc (.cells #[.slice (some ⟨b, off, none⟩) m cap, .int .i64 e] 60)).alloc (.cells #[.slice none 0 0, .int .i64 0] 60)) w1 :=
        (hb.alloc (by omega) _).grown hgrow (by simp; omega) (fun k hk => (hown'.lt k hk).1)
      clear hown' hgrow ca cb hcx hb
      go_wp2
      go_roundw
      case rel =>
        have hxr : L.reverse.getD k 0 = x := by
          rw [HX.out, List.getD_eq_getElem?_getD, List.getElem?_reverse (by have := HM.out; omega), List.getD_eq_getElem?_getD, ← HM.out]
        have hst := times_step L.reverse O k n c (by rw [List.length_reverse, ← HM.out]; exact hlt) hO HL.out
        rw [hxr] at hst
        have hq : ((x : Int) * n + c) / 10 = ((x * n + c) / 10 : Nat) := by simp
        have hr : ((x : Int) * n + c) % 10 = ((x * n + c) % 10 : Nat) := by simp
        have hp3 : x * n ≤ 9 * n := Nat.mul_le_mul_right _ hx9
        exact ⟨k + 1, (x * n + c) / 10, O ++ [(x * n + c) % 10], by omega, by go_num, by rw [hq], by omega, by simp [hO], hdO.append (Digs.cons (by omega) Digs.nil), Own.snoc hown1 hO hr, hst, hb1⟩
      case measure => simp [intOf]; omega
    · have hkm : k = m := by omega
      have HL2 : Hid (le O + c * 10 ^ m = num L * n) := by
        have := HL.out
        rw [hkm, List.take_of_length_le (by rw [List.length_reverse, ← HM.out]; exact Nat.le_refl _)] at this; exact this
      have hOm : O.length = m := by omega
      have hc17 : c < 10 ^ 17 := by omega
      clear HL hO hk
      subst hkm
      clear hlt
      go_wp2
      go_loopw [5, 6] (fun o c' wx => ∃ t c : Nat, ∃ O : List Nat, t ≤ 17 ∧ c' = .int .i64 c ∧ Hid (c < 10 ^ (17 - t)) ∧ c ≤ 36028797018963968 ∧ Hid (O.length = k + t) ∧ Digs O ∧ Own wx (w.heap.size + 2) o O ∧
        Hid (le O + c * 10 ^ O.length = num L * n) ∧ Below (w.heap.size + 2) ((w.alloc (.cells #[.slice (some ⟨b, off, none⟩) k cap, .int .i64 e] 60)).alloc (.cells #[.slice none 0 0, .int .i64 0] 60)) wx)
        (fun _ c _ => (intOf c).toNat)
      case atStart => exact ⟨0, c, O, by omega, rfl, hc17, by omega, hOm, hdO, hown, by rw [hOm]; exact HL2, hb⟩
      case round =>
        clear ca cb hown hb hdO hOm HL2 hc17 hc hsz
        obtain ⟨t, c, O, ht, rfl, HC, hc, HO, hdO, hown, HL, hb⟩ := hrel
        have hsz := hb.size
        simp at hsz
        by_cases hpos : 0 < c
        · have hst := carry_lt c t HC.out hpos
          have ht1 : t < 17 := hst.1
          have HST : Hid (c / 10 < 10 ^ (17 - (t + 1))) := hst.2
          have hown' : wr.ownsRow (w.heap.size + 2) 3 1 u5 (k + t) (ints O) := by have := hown; unfold Own at this; rwa [HO.out] at this
          clear hown hst
          go_wp2_with (at_builtin; refine wpList_append_own _ rfl (.tmp 37) (.tmp 40) 40 rfl (w.heap.size + 2) 3 i0 (.int .i64 0) 1 8 Tryd.underlying40 hi hz0 hz1 hz2 rfl (by decide) _ _ _ rfl (hown'.alloc _) ⟨wr.heap.size, 0, none⟩ 1 1 [.int .i64 ((c : Int) % 10)] rfl rfl ?c1 ?c2 ?c3 ?c4 ?c5 ?_)
          case c1 => exact cell_one_new _ _ _
          case c2 => intro u hu; simp at hu; subst hu; rfl
          case c3 => unfold maxLen; omega
          case c4 => omega
          case c5 => simp; omega
          intro v' w1 hown1 hgrow _
          have hb1 : Below (w.heap.size + 2) ((w.alloc (.cells #[.slice (some ⟨b, off, none⟩) k cap, .int .i64 e] 60)).alloc (.cells #[.slice none 0 0, .int .i64 0] 60)) w1 :=
            (hb.alloc (by omega) _).grown hgrow (by simp; omega) (fun k hk => (hown'.lt k hk).1)
          clear hown' hgrow hb
          go_wp2
          go_roundw
          case rel => exact ⟨t + 1, c / 10, O ++ [c % 10], by omega, by go_num, HST, by omega, by simp [HO.out, Hid]; omega, hdO.append (Digs.cons (by omega) Digs.nil), Own.snoc hown1 HO.out (by simp), carry_step O c _ HL.out, hb1⟩
          case measure => simp [intOf]; omega
        · have hc0 : c = 0 := by omega
          subst hc0
          have ca : wr.cell? ⟨w.heap.size, 0, none⟩ = some (.slice (some ⟨b, off, none⟩) k cap) := (hb.cell (p := ⟨w.heap.size, 0, none⟩) (by simp)).trans (by simp [go_sem])
          have cb : wr.cell? ⟨w.heap.size, 1, none⟩ = some (.int .i64 e) := (hb.cell (p := ⟨w.heap.size, 1, none⟩) (by simp)).trans (by simp [go_sem])
          have HV : Hid (le O = num L * n) := by have := HL.out; simpa [Hid] using this
          clear HC HL hpos
          rcases hown.form with ⟨hOn, hv⟩ | ⟨g, cap', hv, hg1, hg2, hg3, hg4⟩
          · have HV0 : Hid (num L * n = 0) := by have := HV.out; rw [hOn] at this; exact this.symm
            subst hv
            clear hown HO hOn hdO HV
            go_wp2
            go_loopw [9] (fun i wx => i = .int .i64 0 ∧ wx = wr) (fun _ _ => 0)
            case atStart => exact ⟨rfl, rfl⟩
            case round =>
              obtain ⟨rfl, rfl⟩ := hrel
              go_wp2_with fail
              refine (made_nil e wr).mono ?_
              rintro r w1 ⟨rfl, hbm⟩
              have hbw : Below (w.heap.size + 2) ((w.alloc (.cells #[.slice (some ⟨b, off, none⟩) k cap, .int .i64 e] 60)).alloc (.cells #[.slice none 0 0, .int .i64 0] 60)) w1 := hb.trans (hbm.mono (by omega))
              have f0 : w1.frozen? ⟨w.heap.size + 1, 0, none⟩ = false := (hbw.frozen (p := ⟨w.heap.size + 1, 0, none⟩) (by simp)).trans (by simp [go_sem])
              have f1 : w1.frozen? ⟨w.heap.size + 1, 1, none⟩ = false := (hbw.frozen (p := ⟨w.heap.size + 1, 1, none⟩) (by simp)).trans (by simp [go_sem])
              have c0 : w1.cell? ⟨w.heap.size + 1, 0, none⟩ = some (.slice none 0 0) := (hbw.cell (p := ⟨w.heap.size + 1, 0, none⟩) (by simp)).trans (by simp [go_sem])
              have c1 : w1.cell? ⟨w.heap.size + 1, 1, none⟩ = some (.int .i64 0) := (hbw.cell (p := ⟨w.heap.size + 1, 1, none⟩) (by simp)).trans (by simp [go_sem])
              clear hb ca cb hbm
              have HB : Hid (Below (w.heap.size + 2) ((w.alloc (.cells #[.slice (some ⟨b, off, none⟩) k cap, .int .i64 e] 60)).alloc (.cells #[.slice none 0 0, .int .i64 0] 60)) w1) := hbw
              clear hbw
              go_wp2
              refine bodyPost_ret (v := .agg #[.slice none 0 0, .int .i64 0]) (dec_results rfl _ _ (w.heap.size + 1) _ _ rfl (two_cells c0 c1).1 (two_cells c0 c1).2) rfl ⟨?_, _, [], 0, rfl, ?_⟩
              · exact ((((Below.refl w.heap.size w).alloc (Nat.le_refl _) _).alloc (by simp) _).trans (HB.out.mono (by omega))).setCell (by show w.heap.size ≤ w.heap.size + 1; omega) _ |>.setCell (by show w.heap.size ≤ w.heap.size + 1; omega) _
              · exact ⟨Row.nil _, fun g hg => by simp [Value.ownBlock] at hg, norm_nil, Nat.zero_le _, fun _ => rfl, fun h => absurd rfl h, fun K hK => by rw [val_nil, val_mul_zero HV0.out]⟩
          · obtain ⟨q, hq⟩ : ∃ q, q = O.length := ⟨_, rfl⟩
            rw [← hq] at hv hg3
            have HQ : Hid (q = O.length) := hq
            have hq2 : q ≤ k + 17 := by have := HO.out; omega
            unfold maxLen at hg4
            clear hq
            subst hv
            go_wp2
            go_loopw [9] (fun i wx => ∃ j : Nat, ∃ M : List Nat, i = .int .i64 j ∧ j ≤ q / 2 ∧ Hid (Turned O M j) ∧ Own wx (w.heap.size + 2) (.slice (some ⟨g, 0, none⟩) q cap') M ∧
              Below (w.heap.size + 2) ((w.alloc (.cells #[.slice (some ⟨b, off, none⟩) k cap, .int .i64 e] 60)).alloc (.cells #[.slice none 0 0, .int .i64 0] 60)) wx) (fun i _ => q - (intOf i).toNat)
            case atStart => exact ⟨0, O, rfl, Nat.zero_le _, Turned.start O, hown, hb⟩
            case round =>
              clear ca cb hown hb hsz hg2
              obtain ⟨j, M, rfl, hj, HT, hown, hb⟩ := hrel
              have hMq : M.length = q := by rw [HT.out.1, HQ.out]
              have HMQ : Hid (M.length = q) := hMq
              clear hMq
              by_cases hlt : j < q / 2
              · obtain ⟨x, hx⟩ : ∃ x, x = M.getD j 0 := ⟨_, rfl⟩
                obtain ⟨y, hy⟩ : ∃ y, y = M.getD (q - 1 - j) 0 := ⟨_, rfl⟩
                have cx : wr.cell? ⟨g, j, none⟩ = some (.int .i64 x) := by rw [hx]; exact hown.cell HMQ.out j (by omega)
                have cy : wr.cell? ⟨g, q - 1 - j, none⟩ = some (.int .i64 y) := by rw [hy]; exact hown.cell HMQ.out _ (by omega)
                have fx : wr.frozen? ⟨g, j, none⟩ = false := hown.frozen HMQ.out j
                have fy : wr.frozen? ⟨g, q - 1 - j, none⟩ = false := hown.frozen HMQ.out _
                have HX : Hid (x = M.getD j 0) := hx
                have HY : Hid (y = M.getD (q - 1 - j) 0) := hy
                have hown2 := (hown.store HMQ.out j y).store (by rw [List.length_set]; exact HMQ.out) (q - 1 - j) x
                have hb2 := (hb.setCell (p := ⟨g, j, none⟩) (by exact hg1) (.int .i64 (y : Nat))).setCell (p := ⟨g, q - 1 - j, none⟩) (by exact hg1) (.int .i64 (x : Nat))
                have HS : Hid (Turned O ((M.set j y).set (q - 1 - j) x) (j + 1)) := by
                  have := HT.out.step (by rw [← HQ.out]; exact hlt)
                  rw [← HQ.out] at this; rw [HX.out, HY.out]; exact this
                have HO2 : Hid (Own ((wr.setCell ⟨g, j, none⟩ (.int .i64 (y : Nat))).setCell ⟨g, q - 1 - j, none⟩ (.int .i64 (x : Nat))) (w.heap.size + 2) (.slice (some ⟨g, 0, none⟩) q cap') ((M.set j y).set (q - 1 - j) x)) := hown2
                clear hx hy hown hb hown2
                go_wp2
                go_roundw
                case rel => exact ⟨j + 1, _, by go_num, by omega, HS, HO2.out, hb2⟩
                case measure => simp [intOf]; omega
              · have ca : wr.cell? ⟨w.heap.size, 0, none⟩ = some (.slice (some ⟨b, off, none⟩) k cap) := (hb.cell (p := ⟨w.heap.size, 0, none⟩) (by simp)).trans (by simp [go_sem])
                have cb : wr.cell? ⟨w.heap.size, 1, none⟩ = some (.int .i64 e) := (hb.cell (p := ⟨w.heap.size, 1, none⟩) (by simp)).trans (by simp [go_sem])
                have HR : Hid (M = O.reverse) := HT.out.done (by rw [← HQ.out]; omega) (by rw [← HQ.out]; omega)
                have hlen : M.length ≤ 1000000 := by rw [HMQ.out]; omega
                go_wp2_with fail
                refine (made_any _ M e wr hown.row (by rw [HR.out]; exact hdO.reverse) hlen (by omega)).mono ?_
                rintro r w1 ⟨hbm, v', L', e', rfl, hout⟩
                have hbw : Below (w.heap.size + 2) ((w.alloc (.cells #[.slice (some ⟨b, off, none⟩) k cap, .int .i64 e] 60)).alloc (.cells #[.slice none 0 0, .int .i64 0] 60)) w1 := hb.trans (hbm.mono (by have := hb.size; simp at this; omega))
                have f0 : w1.frozen? ⟨w.heap.size + 1, 0, none⟩ = false := (hbw.frozen (p := ⟨w.heap.size + 1, 0, none⟩) (by simp)).trans (by simp [go_sem])
                have f1 : w1.frozen? ⟨w.heap.size + 1, 1, none⟩ = false := (hbw.frozen (p := ⟨w.heap.size + 1, 1, none⟩) (by simp)).trans (by simp [go_sem])
                have c0 : w1.cell? ⟨w.heap.size + 1, 0, none⟩ = some (.slice none 0 0) := (hbw.cell (p := ⟨w.heap.size + 1, 0, none⟩) (by simp)).trans (by simp [go_sem])
                have c1 : w1.cell? ⟨w.heap.size + 1, 1, none⟩ = some (.int .i64 0) := (hbw.cell (p := ⟨w.heap.size + 1, 1, none⟩) (by simp)).trans (by simp [go_sem])
                obtain ⟨ao, cp, hv⟩ := hout.row.isSlice
                clear hown hb ca cb hbm
                have HB : Hid (Below (w.heap.size + 2) ((w.alloc (.cells #[.slice (some ⟨b, off, none⟩) k cap, .int .i64 e] 60)).alloc (.cells #[.slice none 0 0, .int .i64 0] 60)) w1) := hbw
                clear hbw
                rw [hv] at hout
                subst hv
                go_wp2
                refine bodyPost_ret (v := .agg #[.slice ao L'.length cp, .int .i64 e']) (dec_results rfl _ _ (w.heap.size + 1) _ _ rfl (two_cells c0 c1).1 (two_cells c0 c1).2) rfl ⟨?_, _, L', e', rfl, ?_⟩
                · exact ((((Below.refl w.heap.size w).alloc (Nat.le_refl _) _).alloc (by simp) _).trans (HB.out.mono (by omega))).setCell (by show w.heap.size ≤ w.heap.size + 1; omega) _ |>.setCell (by show w.heap.size ≤ w.heap.size + 1; omega) _
                · have h9 : Out w1 (.slice ao L'.length cp) L' e' (k + 17) e (e + k + 17) (fun g => w.heap.size + 2 ≤ g) (fun K => val K L e * n) := by
                    refine hout.mono (by rw [HMQ.out]; omega) (Int.le_refl _) (by rw [HMQ.out]; omega) (fun g' hg' => ?_) (fun K hK => ?_)
                    · simp [Value.ownBlock] at hg'; omega
                    · exact val_times HR.out HV.out K e
                  exact (h9.setCell _ _ (by simp)).setCell _ _ (by simp)

set_option maxRecDepth 100000 in
set_option maxHeartbeats 1000000 in
theorem times_nil (n : Nat) (e : Int) (w : World) :
    Calls Tryd.prog 42 #[.agg #[.slice none 0 0, .int .i64 e], .int .i64 n] w fun r w' => Below w.heap.size w w' ∧ r = .returned (.agg #[.slice none 0 0, .int .i64 0]) := by
  go_enter Tryd.func42, Tryd.ntmps42
  go_wp2
  go_loop [5, 6, 7] (fun o c i => o = .slice none 0 0 ∧ c = .int .i64 0 ∧ i = .int .i64 (-1)) (fun _ _ _ => 0)
  case atStart => exact ⟨rfl, rfl, rfl⟩
  case round =>
    obtain ⟨rfl, rfl, rfl⟩ := hrel
    go_wp2
    go_loop [5, 6] (fun o c => o = .slice none 0 0 ∧ c = .int .i64 0) (fun _ _ => 0)
    case atStart => exact ⟨rfl, rfl⟩
    case round =>
      obtain ⟨rfl, rfl⟩ := hrel
      go_wp2
      go_loop [9] (fun i => i = .int .i64 0) (fun _ => 0)
      case atStart => rfl
      case round =>
        subst hrel
        go_wp2_with fail
        refine (made_nil e _).mono ?_
        rintro r w1 ⟨rfl, hbw⟩
        have f0 : w1.frozen? ⟨w.heap.size + 1, 0, none⟩ = false := (hbw.frozen (p := ⟨w.heap.size + 1, 0, none⟩) (by simp)).trans (by simp [go_sem])
        have f1 : w1.frozen? ⟨w.heap.size + 1, 1, none⟩ = false := (hbw.frozen (p := ⟨w.heap.size + 1, 1, none⟩) (by simp)).trans (by simp [go_sem])
        have c0 : w1.cell? ⟨w.heap.size + 1, 0, none⟩ = some (.slice none 0 0) := (hbw.cell (p := ⟨w.heap.size + 1, 0, none⟩) (by simp)).trans (by simp [go_sem])
        have c1 : w1.cell? ⟨w.heap.size + 1, 1, none⟩ = some (.int .i64 0) := (hbw.cell (p := ⟨w.heap.size + 1, 1, none⟩) (by simp)).trans (by simp [go_sem])
        have hbw' := hbw.mono (B' := w.heap.size) (by simp; omega)
        clear hbw
        go_wp2
        refine bodyPost_ret (v := .agg #[.slice none 0 0, .int .i64 0]) (dec_results rfl _ _ (w.heap.size + 1) _ _ rfl (two_cells c0 c1).1 (two_cells c0 c1).2) rfl ⟨?_, rfl⟩
        exact ((((Below.refl w.heap.size w).alloc (Nat.le_refl _) _).alloc (by simp) _).trans hbw').setCell (by show w.heap.size ≤ w.heap.size + 1; omega) _ |>.setCell (by show w.heap.size ≤ w.heap.size + 1; omega) _

/-- 'Times': a product. -/
theorem times_any (v : Value) (L : List Nat) (e : Int) (n : Nat) (w : World) (hr : Row w v L) (hd : Digs L) (hl : L.length ≤ 900000) (he : -900000 ≤ e ∧ e ≤ 900000) (hn : n ≤ 36028797018963968) :
    Calls Tryd.prog 42 #[.agg #[v, .int .i64 e], .int .i64 n] w fun r w' => Below w.heap.size w w' ∧
      ∃ v' L' e', r = .returned (.agg #[v', .int .i64 e']) ∧ Out w' v' L' e' (L.length + 17) e (e + L.length + 17) (fun g => w.heap.size ≤ g) (fun K => val K L e * n) := by
  rcases hr with ⟨rfl, rfl⟩ | ⟨b, off, cap, rfl, h1, h2, h3, h4⟩
  · refine (times_nil n e w).mono ?_
    rintro r w' ⟨hb, rfl⟩
    exact ⟨hb, _, [], 0, rfl, Row.nil _, fun g hg => by simp [Value.ownBlock] at hg, norm_nil, Nat.zero_le _, fun _ => rfl, fun h => absurd rfl h, fun K hK => by simp [val_nil]⟩
  · refine (times_some b off cap n L e w h1 h2 h3 h4 hd hl he hn).mono ?_
    rintro r w' ⟨hb, v', L', e', rfl, ho⟩
    exact ⟨hb, v', L', e', rfl, ho.mono (Nat.le_refl _) (Int.le_refl _) (Int.le_refl _) (fun g hg => by omega) (fun _ _ => rfl)⟩

end Go.Proofs.YtbkdaoicnobllaaDoor

namespace Go.Proofs.YtbkdaoicnobllaaDoor
open Go.RowKit

theorem least_any (a b : Int) (w : World) : Calls Tryd.prog 50 #[.int .i64 a, .int .i64 b] w fun e w' => e = .returned (.int .i64 (min a b)) ∧ w' = w := by
  by_cases h : a < b
  · go_enter Tryd.func50, Tryd.ntmps50
    go_wp2
    go_ret
    exact ⟨by rw [Int.min_eq_left (by omega)]; rfl, rfl⟩
  · go_enter Tryd.func50, Tryd.ntmps50
    go_wp2
    go_ret
    exact ⟨by rw [Int.min_eq_right (by omega)]; rfl, rfl⟩

theorem most_any (a b : Int) (w : World) : Calls Tryd.prog 49 #[.int .i64 a, .int .i64 b] w fun e w' => e = .returned (.int .i64 (max a b)) ∧ w' = w := by
  by_cases h : a > b
  · go_enter Tryd.func49, Tryd.ntmps49
    go_wp2
    go_ret
    exact ⟨by rw [Int.max_eq_left (by omega)]; rfl, rfl⟩
  · go_enter Tryd.func49, Tryd.ntmps49
    go_wp2
    go_ret
    exact ⟨by rw [Int.max_eq_right (by omega)]; rfl, rfl⟩

end Go.Proofs.YtbkdaoicnobllaaDoor

namespace Go.Proofs.YtbkdaoicnobllaaDoor
open Go.RowKit

theorem kind0 (w : World) :
    Calls Tryd.prog 22 #[.int .i64 0] w fun e w' => e = .returned (.tuple #[.int .i64 11, .int .i64 (-14), .int .i64 15, .int .i64 16]) ∧ w' = w := by
  go_enter Tryd.func22, Tryd.ntmps22
  go_wp2
  refine bodyPost_ret (v := .tuple #[.int .i64 11, .int .i64 (-14), .int .i64 15, .int .i64 16]) (by simp [results, Tryd.results22, go_sem]) rfl ⟨rfl, rfl⟩
theorem kind1 (w : World) :
    Calls Tryd.prog 22 #[.int .i64 1] w fun e w' => e = .returned (.tuple #[.int .i64 24, .int .i64 (-126), .int .i64 127, .int .i64 32]) ∧ w' = w := by
  go_enter Tryd.func22, Tryd.ntmps22
  go_wp2
  refine bodyPost_ret (v := .tuple #[.int .i64 24, .int .i64 (-126), .int .i64 127, .int .i64 32]) (by simp [results, Tryd.results22, go_sem]) rfl ⟨rfl, rfl⟩
theorem kind2 (w : World) :
    Calls Tryd.prog 22 #[.int .i64 2] w fun e w' => e = .returned (.tuple #[.int .i64 53, .int .i64 (-1022), .int .i64 1023, .int .i64 64]) ∧ w' = w := by
  go_enter Tryd.func22, Tryd.ntmps22
  go_wp2
  refine bodyPost_ret (v := .tuple #[.int .i64 53, .int .i64 (-1022), .int .i64 1023, .int .i64 64]) (by simp [results, Tryd.results22, go_sem]) rfl ⟨rfl, rfl⟩

/-- The amount of infinity. -/
def infA (f : Int) : Int := if f = 0 then 31744 else if f = 1 then 2139095040 else 9218868437227405312

theorem infinity_any (f : Int) (w : World) (hf : 0 ≤ f ∧ f ≤ 2) :
    Calls Tryd.prog 23 #[.int .i64 f] w fun e w' => e = .returned (.int .i64 (infA f)) ∧ ∃ n, w' = w.drewN n := by
  have hc : f = 0 ∨ f = 1 ∨ f = 2 := by omega
  rcases hc with rfl | rfl | rfl
  · go_enter Tryd.func23, Tryd.ntmps23
    go_wp2_with fail
    refine (kind0 _).mono ?_
    rintro e w' ⟨rfl, rfl⟩
    go_wp2
    go_quiet (fail)
    go_wp2
    go_ret
    refine ⟨ret_int ?_, _, rfl⟩
    decide
  · go_enter Tryd.func23, Tryd.ntmps23
    go_wp2_with fail
    refine (kind1 _).mono ?_
    rintro e w' ⟨rfl, rfl⟩
    go_wp2
    go_quiet (fail)
    go_wp2
    go_ret
    refine ⟨ret_int ?_, _, rfl⟩
    decide
  · go_enter Tryd.func23, Tryd.ntmps23
    go_wp2_with fail
    refine (kind2 _).mono ?_
    rintro e w' ⟨rfl, rfl⟩
    go_wp2
    go_quiet (fail)
    go_wp2
    go_ret
    refine ⟨ret_int ?_, _, rfl⟩
    unfold wrap64
    decide

/-- Of two neighbours, is it the one away from 0 that is taken? -/
def awayB (mode : Int) (neg : Bool) (half : Int) (odd : Bool) : Bool :=
  if mode = 0 then half == 3 || (half == 2 && odd) else if mode = 1 then decide (2 ≤ half) else if mode = 3 then !neg else if mode = 4 then neg else false

theorem away_any (mode half : Int) (neg odd : Bool) (w : World) :
    Calls Tryd.prog 45 #[.int .i64 mode, .bool neg, .int .i64 half, .bool odd] w fun e w' => e = .returned (.bool (awayB mode neg half odd)) ∧ w' = w := by
  by_cases h0 : mode = 0
  · subst h0
    by_cases h3 : half = 3
    · subst h3
      go_enter Tryd.func45, Tryd.ntmps45
      go_wp2
      go_ret
      exact ⟨rfl, rfl⟩
    · have b3 : (half == 3) = false := by simpa using h3
      by_cases h2 : half = 2
      · subst h2
        go_enter Tryd.func45, Tryd.ntmps45
        go_wp2
        go_ret
        exact ⟨by cases odd <;> rfl, rfl⟩
      · have b2 : (half == 2) = false := by simpa using h2
        go_enter Tryd.func45, Tryd.ntmps45
        go_wp2
        go_ret
        exact ⟨by simp [awayB, b2, b3], rfl⟩
  · have b0 : (mode == 0) = false := by simpa using h0
    by_cases h1 : mode = 1
    · subst h1
      by_cases h2 : 2 ≤ half
      all_goals
        go_enter Tryd.func45, Tryd.ntmps45
        go_wp2
        go_ret
        exact ⟨by simp [awayB, h2], rfl⟩
    · have b1 : (mode == 1) = false := by simpa using h1
      by_cases h3 : mode = 3
      · subst h3
        go_enter Tryd.func45, Tryd.ntmps45
        go_wp2
        go_ret
        exact ⟨by simp [awayB], rfl⟩
      · have b3 : (mode == 3) = false := by simpa using h3
        by_cases h4 : mode = 4
        · subst h4
          go_enter Tryd.func45, Tryd.ntmps45
          go_wp2
          go_ret
          exact ⟨by simp [awayB], rfl⟩
        · have b4 : (mode == 4) = false := by simpa using h4
          go_enter Tryd.func45, Tryd.ntmps45
          go_wp2
          go_ret
          exact ⟨by simp [awayB, h0, h1, h3, h4], rfl⟩

/-- A row of one. -/
theorem row_one {w : World} {b : Nat} (h : b < w.heap.size) (c : w.cell? ⟨b, 0, none⟩ = some (.int .i64 1)) : Row w (.slice (some ⟨b, 0, none⟩) 1 1) [1] :=
  .inr ⟨b, 0, 1, rfl, by simp, by unfold maxLen; omega, h, fun j hj => by
    have : j = 0 := by simp at hj; omega
    subst this; simpa using c⟩
theorem norm_one : Norm [1] := ⟨Digs.cons (by omega) Digs.nil, fun _ => by simp, fun _ => by simp⟩
theorem val_one (K : Nat) (p : Int) : val K [1] p = 10 ^ (p + K).toNat := by simp [val, num_cons, num_nil]

/-- 'One': a power of ten. -/
theorem one_any (p : Int) (w : World) :
    Calls Tryd.prog 46 #[.int .i64 p] w fun r w' => Below w.heap.size w w' ∧
      ∃ v' L' e', r = .returned (.agg #[v', .int .i64 e']) ∧ Out w' v' L' e' 1 p (p + 1) (fun g => w.heap.size ≤ g) (fun K => 10 ^ (p + K).toNat) := by
  go_enter Tryd.func46, Tryd.ntmps46
  go_wp2
  refine bodyPost_ret (v := .agg #[.slice (some ⟨w.heap.size + 1, 0, none⟩) 1 1, .int .i64 p]) (dec_results rfl _ _ w.heap.size _ _ rfl (by simp [go_sem]) (by simp [go_sem])) rfl ⟨box4_below, _, [1], p, rfl, ?_⟩
  exact ⟨row_one (by simp) (by simp [go_sem]), fun g hg => by simp [Value.ownBlock] at hg; omega, norm_one, by simp, fun h => by simp at h, fun _ => by simp, fun K _ => val_one K p⟩

end Go.Proofs.YtbkdaoicnobllaaDoor
