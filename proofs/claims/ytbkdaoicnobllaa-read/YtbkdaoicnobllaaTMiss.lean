import Derived.Test.YtbkdaoicnobllaaTKeepD

namespace Go.Proofs.Ytbkdaoicnobllaa
open Go.RowKit

set_option maxRecDepth 100000 in
set_option maxHeartbeats 8000000 in
theorem misses_any (cv : Value) (w : World) :
    Calls Try.prog 12 #[cv] w fun e w' => e = .returned (.bool true) ∧ Below w.heap.size w w' := by
  obtain ⟨w6, hw6⟩ : ∃ w6, w6 = (w.alloc (.cells #[.string ⟨#[]⟩, .string ⟨#[43]⟩, .string ⟨#[46]⟩, .string ⟨#[49, 101]⟩, .string ⟨#[49, 101, 43]⟩, .string ⟨#[48, 120]⟩, .string ⟨#[48, 120, 49]⟩, .string ⟨#[48, 120, 49, 112]⟩, .string ⟨#[105, 110, 102, 105]⟩, .string ⟨#[110, 97, 109]⟩, .string ⟨#[49, 46, 50, 46, 51]⟩, .string ⟨#[45, 45, 49]⟩, .string ⟨#[48, 120, 46, 56, 112, 49]⟩, .string ⟨#[49, 101, 53, 120]⟩, .string ⟨#[49, 69, 53]⟩, .string ⟨#[45, 46, 101, 49]⟩] 9)).alloc (.cells #[.int .i64 0, .int .i64 1, .int .i64 1, .int .i64 2, .int .i64 3, .int .i64 2, .int .i64 3, .int .i64 4, .int .i64 4, .int .i64 2, .int .i64 3, .int .i64 1, .int .i64 2, .int .i64 3, .int .i64 1, .int .i64 2] 3) := ⟨_, rfl⟩
  have L0 : Hid (w6.cell? ⟨w.heap.size, 0, none⟩ = some (.string ⟨#[]⟩)) := by unfold Hid; rw [hw6]; simp [go_sem]
  have L1 : Hid (w6.cell? ⟨w.heap.size, 1, none⟩ = some (.string ⟨#[43]⟩)) := by unfold Hid; rw [hw6]; simp [go_sem]
  have L2 : Hid (w6.cell? ⟨w.heap.size, 2, none⟩ = some (.string ⟨#[46]⟩)) := by unfold Hid; rw [hw6]; simp [go_sem]
  have L3 : Hid (w6.cell? ⟨w.heap.size, 3, none⟩ = some (.string ⟨#[49, 101]⟩)) := by unfold Hid; rw [hw6]; simp [go_sem]
  have L4 : Hid (w6.cell? ⟨w.heap.size, 4, none⟩ = some (.string ⟨#[49, 101, 43]⟩)) := by unfold Hid; rw [hw6]; simp [go_sem]
  have L5 : Hid (w6.cell? ⟨w.heap.size, 5, none⟩ = some (.string ⟨#[48, 120]⟩)) := by unfold Hid; rw [hw6]; simp [go_sem]
  have L6 : Hid (w6.cell? ⟨w.heap.size, 6, none⟩ = some (.string ⟨#[48, 120, 49]⟩)) := by unfold Hid; rw [hw6]; simp [go_sem]
  have L7 : Hid (w6.cell? ⟨w.heap.size, 7, none⟩ = some (.string ⟨#[48, 120, 49, 112]⟩)) := by unfold Hid; rw [hw6]; simp [go_sem]
  have L8 : Hid (w6.cell? ⟨w.heap.size, 8, none⟩ = some (.string ⟨#[105, 110, 102, 105]⟩)) := by unfold Hid; rw [hw6]; simp [go_sem]
  have L9 : Hid (w6.cell? ⟨w.heap.size, 9, none⟩ = some (.string ⟨#[110, 97, 109]⟩)) := by unfold Hid; rw [hw6]; simp [go_sem]
  have L10 : Hid (w6.cell? ⟨w.heap.size, 10, none⟩ = some (.string ⟨#[49, 46, 50, 46, 51]⟩)) := by unfold Hid; rw [hw6]; simp [go_sem]
  have L11 : Hid (w6.cell? ⟨w.heap.size, 11, none⟩ = some (.string ⟨#[45, 45, 49]⟩)) := by unfold Hid; rw [hw6]; simp [go_sem]
  have L12 : Hid (w6.cell? ⟨w.heap.size, 12, none⟩ = some (.string ⟨#[48, 120, 46, 56, 112, 49]⟩)) := by unfold Hid; rw [hw6]; simp [go_sem]
  have L13 : Hid (w6.cell? ⟨w.heap.size, 13, none⟩ = some (.string ⟨#[49, 101, 53, 120]⟩)) := by unfold Hid; rw [hw6]; simp [go_sem]
  have L14 : Hid (w6.cell? ⟨w.heap.size, 14, none⟩ = some (.string ⟨#[49, 69, 53]⟩)) := by unfold Hid; rw [hw6]; simp [go_sem]
  have L15 : Hid (w6.cell? ⟨w.heap.size, 15, none⟩ = some (.string ⟨#[45, 46, 101, 49]⟩)) := by unfold Hid; rw [hw6]; simp [go_sem]
  have A0 : Hid (w6.cell? ⟨w.heap.size + 1, 0, none⟩ = some (.int .i64 0)) := by unfold Hid; rw [hw6]; simp [go_sem]
  have A1 : Hid (w6.cell? ⟨w.heap.size + 1, 1, none⟩ = some (.int .i64 1)) := by unfold Hid; rw [hw6]; simp [go_sem]
  have A2 : Hid (w6.cell? ⟨w.heap.size + 1, 2, none⟩ = some (.int .i64 1)) := by unfold Hid; rw [hw6]; simp [go_sem]
  have A3 : Hid (w6.cell? ⟨w.heap.size + 1, 3, none⟩ = some (.int .i64 2)) := by unfold Hid; rw [hw6]; simp [go_sem]
  have A4 : Hid (w6.cell? ⟨w.heap.size + 1, 4, none⟩ = some (.int .i64 3)) := by unfold Hid; rw [hw6]; simp [go_sem]
  have A5 : Hid (w6.cell? ⟨w.heap.size + 1, 5, none⟩ = some (.int .i64 2)) := by unfold Hid; rw [hw6]; simp [go_sem]
  have A6 : Hid (w6.cell? ⟨w.heap.size + 1, 6, none⟩ = some (.int .i64 3)) := by unfold Hid; rw [hw6]; simp [go_sem]
  have A7 : Hid (w6.cell? ⟨w.heap.size + 1, 7, none⟩ = some (.int .i64 4)) := by unfold Hid; rw [hw6]; simp [go_sem]
  have A8 : Hid (w6.cell? ⟨w.heap.size + 1, 8, none⟩ = some (.int .i64 4)) := by unfold Hid; rw [hw6]; simp [go_sem]
  have A9 : Hid (w6.cell? ⟨w.heap.size + 1, 9, none⟩ = some (.int .i64 2)) := by unfold Hid; rw [hw6]; simp [go_sem]
  have A10 : Hid (w6.cell? ⟨w.heap.size + 1, 10, none⟩ = some (.int .i64 3)) := by unfold Hid; rw [hw6]; simp [go_sem]
  have A11 : Hid (w6.cell? ⟨w.heap.size + 1, 11, none⟩ = some (.int .i64 1)) := by unfold Hid; rw [hw6]; simp [go_sem]
  have A12 : Hid (w6.cell? ⟨w.heap.size + 1, 12, none⟩ = some (.int .i64 2)) := by unfold Hid; rw [hw6]; simp [go_sem]
  have A13 : Hid (w6.cell? ⟨w.heap.size + 1, 13, none⟩ = some (.int .i64 3)) := by unfold Hid; rw [hw6]; simp [go_sem]
  have A14 : Hid (w6.cell? ⟨w.heap.size + 1, 14, none⟩ = some (.int .i64 1)) := by unfold Hid; rw [hw6]; simp [go_sem]
  have A15 : Hid (w6.cell? ⟨w.heap.size + 1, 15, none⟩ = some (.int .i64 2)) := by unfold Hid; rw [hw6]; simp [go_sem]
  have HB6 : Hid (Below w.heap.size w w6) := by unfold Hid; rw [hw6]; exact box4_below
  have HW6 := hid hw6
  clear hw6
  go_enter Try.func12, Try.ntmps12
  go_wp2_with (rw [← HW6.out])
  go_wp2
  go_loopw [5, 6, 7, 8, 9] (fun mm _ _ _ _ wr => ∃ n : Nat, mm = .int .i64 n ∧ n ≤ 16 ∧ Hid (Below w6.heap.size w6 wr)) (fun mm _ _ _ _ _ => 16 - (intOf mm).toNat)
  case atStart => exact ⟨0, rfl, by omega, Below.refl _ _⟩
  case round =>
    obtain ⟨n, rfl, hn, HBr⟩ := hrel
    rcases (by omega : n = 0 ∨ n = 1 ∨ n = 2 ∨ n = 3 ∨ n = 4 ∨ n = 5 ∨ n = 6 ∨ n = 7 ∨ n = 8 ∨ n = 9 ∨ n = 10 ∨ n = 11 ∨ n = 12 ∨ n = 13 ∨ n = 14 ∨ n = 15 ∨ n = 16) with rfl | rfl | rfl | rfl | rfl | rfl | rfl | rfl | rfl | rfl | rfl | rfl | rfl | rfl | rfl | rfl | rfl
    · have HXa := hid (parse_any cv ⟨#[]⟩ 2 0 wr)
      have d := keep_cell' HBr.out L0.out
      have d2 := keep_cell' HBr.out A0.out
      go_wp2_with fail
      refine HXa.out.mono ?_
      rintro e w1 ⟨v, g, at', er, rfl, hb1, hp1⟩
      obtain ⟨z1, z2, z3, z4⟩ := fail_eval (k := 0) (by decide) (by decide +kernel) (prog_spec (Nat.le_refl _) hp1)
      have z3 : at' = 0 := z3
      have t1 : (v != 0) = false := by simpa using z1
      have t2 : (g != 0) = false := by simpa using z2
      have t3 : (at' != 0) = false := by simpa using z3
      have t4 : (er != 3) = false := by simpa using z4
      clear z1 z2 z3 z4
      have HB1 : Hid (Below w6.heap.size w6 w1) := HBr.out.trans (hb1.mono HBr.out.size)
      have d2' := keep_cell' hb1 d2
      clear HXa hb1 hp1 d d2 HBr
      go_wp2
      go_roundw
      case rel => exact ⟨1, by go_num, by omega, HB1.out⟩
      case measure => simp [intOf]
    · have HXa := hid (parse_any cv ⟨#[43]⟩ 2 0 wr)
      have d := keep_cell' HBr.out L1.out
      have d2 := keep_cell' HBr.out A1.out
      go_wp2_with fail
      refine HXa.out.mono ?_
      rintro e w1 ⟨v, g, at', er, rfl, hb1, hp1⟩
      obtain ⟨z1, z2, z3, z4⟩ := fail_eval (k := 1) (by decide) (by decide +kernel) (prog_spec (Nat.le_refl _) hp1)
      have z3 : at' = 1 := z3
      have t1 : (v != 0) = false := by simpa using z1
      have t2 : (g != 0) = false := by simpa using z2
      have t3 : (at' != 1) = false := by simpa using z3
      have t4 : (er != 3) = false := by simpa using z4
      clear z1 z2 z3 z4
      have HB1 : Hid (Below w6.heap.size w6 w1) := HBr.out.trans (hb1.mono HBr.out.size)
      have d2' := keep_cell' hb1 d2
      clear HXa hb1 hp1 d d2 HBr
      go_wp2
      go_roundw
      case rel => exact ⟨2, by go_num, by omega, HB1.out⟩
      case measure => simp [intOf]
    · have HXa := hid (parse_any cv ⟨#[46]⟩ 2 0 wr)
      have d := keep_cell' HBr.out L2.out
      have d2 := keep_cell' HBr.out A2.out
      go_wp2_with fail
      refine HXa.out.mono ?_
      rintro e w1 ⟨v, g, at', er, rfl, hb1, hp1⟩
      obtain ⟨z1, z2, z3, z4⟩ := fail_eval (k := 1) (by decide) (by decide +kernel) (prog_spec (Nat.le_refl _) hp1)
      have z3 : at' = 1 := z3
      have t1 : (v != 0) = false := by simpa using z1
      have t2 : (g != 0) = false := by simpa using z2
      have t3 : (at' != 1) = false := by simpa using z3
      have t4 : (er != 3) = false := by simpa using z4
      clear z1 z2 z3 z4
      have HB1 : Hid (Below w6.heap.size w6 w1) := HBr.out.trans (hb1.mono HBr.out.size)
      have d2' := keep_cell' hb1 d2
      clear HXa hb1 hp1 d d2 HBr
      go_wp2
      go_roundw
      case rel => exact ⟨3, by go_num, by omega, HB1.out⟩
      case measure => simp [intOf]
    · have HXa := hid (parse_any cv ⟨#[49, 101]⟩ 2 0 wr)
      have d := keep_cell' HBr.out L3.out
      have d2 := keep_cell' HBr.out A3.out
      go_wp2_with fail
      refine HXa.out.mono ?_
      rintro e w1 ⟨v, g, at', er, rfl, hb1, hp1⟩
      obtain ⟨z1, z2, z3, z4⟩ := fail_eval (k := 2) (by decide) (by decide +kernel) (prog_spec (Nat.le_refl _) hp1)
      have z3 : at' = 2 := z3
      have t1 : (v != 0) = false := by simpa using z1
      have t2 : (g != 0) = false := by simpa using z2
      have t3 : (at' != 2) = false := by simpa using z3
      have t4 : (er != 3) = false := by simpa using z4
      clear z1 z2 z3 z4
      have HB1 : Hid (Below w6.heap.size w6 w1) := HBr.out.trans (hb1.mono HBr.out.size)
      have d2' := keep_cell' hb1 d2
      clear HXa hb1 hp1 d d2 HBr
      go_wp2
      go_roundw
      case rel => exact ⟨4, by go_num, by omega, HB1.out⟩
      case measure => simp [intOf]
    · have HXa := hid (parse_any cv ⟨#[49, 101, 43]⟩ 2 0 wr)
      have d := keep_cell' HBr.out L4.out
      have d2 := keep_cell' HBr.out A4.out
      go_wp2_with fail
      refine HXa.out.mono ?_
      rintro e w1 ⟨v, g, at', er, rfl, hb1, hp1⟩
      obtain ⟨z1, z2, z3, z4⟩ := fail_eval (k := 3) (by decide) (by decide +kernel) (prog_spec (Nat.le_refl _) hp1)
      have z3 : at' = 3 := z3
      have t1 : (v != 0) = false := by simpa using z1
      have t2 : (g != 0) = false := by simpa using z2
      have t3 : (at' != 3) = false := by simpa using z3
      have t4 : (er != 3) = false := by simpa using z4
      clear z1 z2 z3 z4
      have HB1 : Hid (Below w6.heap.size w6 w1) := HBr.out.trans (hb1.mono HBr.out.size)
      have d2' := keep_cell' hb1 d2
      clear HXa hb1 hp1 d d2 HBr
      go_wp2
      go_roundw
      case rel => exact ⟨5, by go_num, by omega, HB1.out⟩
      case measure => simp [intOf]
    · have HXa := hid (parse_any cv ⟨#[48, 120]⟩ 2 0 wr)
      have d := keep_cell' HBr.out L5.out
      have d2 := keep_cell' HBr.out A5.out
      go_wp2_with fail
      refine HXa.out.mono ?_
      rintro e w1 ⟨v, g, at', er, rfl, hb1, hp1⟩
      obtain ⟨z1, z2, z3, z4⟩ := fail_eval (k := 2) (by decide) (by decide +kernel) (prog_spec (Nat.le_refl _) hp1)
      have z3 : at' = 2 := z3
      have t1 : (v != 0) = false := by simpa using z1
      have t2 : (g != 0) = false := by simpa using z2
      have t3 : (at' != 2) = false := by simpa using z3
      have t4 : (er != 3) = false := by simpa using z4
      clear z1 z2 z3 z4
      have HB1 : Hid (Below w6.heap.size w6 w1) := HBr.out.trans (hb1.mono HBr.out.size)
      have d2' := keep_cell' hb1 d2
      clear HXa hb1 hp1 d d2 HBr
      go_wp2
      go_roundw
      case rel => exact ⟨6, by go_num, by omega, HB1.out⟩
      case measure => simp [intOf]
    · have HXa := hid (parse_any cv ⟨#[48, 120, 49]⟩ 2 0 wr)
      have d := keep_cell' HBr.out L6.out
      have d2 := keep_cell' HBr.out A6.out
      go_wp2_with fail
      refine HXa.out.mono ?_
      rintro e w1 ⟨v, g, at', er, rfl, hb1, hp1⟩
      obtain ⟨z1, z2, z3, z4⟩ := fail_eval (k := 3) (by decide) (by decide +kernel) (prog_spec (Nat.le_refl _) hp1)
      have z3 : at' = 3 := z3
      have t1 : (v != 0) = false := by simpa using z1
      have t2 : (g != 0) = false := by simpa using z2
      have t3 : (at' != 3) = false := by simpa using z3
      have t4 : (er != 3) = false := by simpa using z4
      clear z1 z2 z3 z4
      have HB1 : Hid (Below w6.heap.size w6 w1) := HBr.out.trans (hb1.mono HBr.out.size)
      have d2' := keep_cell' hb1 d2
      clear HXa hb1 hp1 d d2 HBr
      go_wp2
      go_roundw
      case rel => exact ⟨7, by go_num, by omega, HB1.out⟩
      case measure => simp [intOf]
    · have HXa := hid (parse_any cv ⟨#[48, 120, 49, 112]⟩ 2 0 wr)
      have d := keep_cell' HBr.out L7.out
      have d2 := keep_cell' HBr.out A7.out
      go_wp2_with fail
      refine HXa.out.mono ?_
      rintro e w1 ⟨v, g, at', er, rfl, hb1, hp1⟩
      obtain ⟨z1, z2, z3, z4⟩ := fail_eval (k := 4) (by decide) (by decide +kernel) (prog_spec (Nat.le_refl _) hp1)
      have z3 : at' = 4 := z3
      have t1 : (v != 0) = false := by simpa using z1
      have t2 : (g != 0) = false := by simpa using z2
      have t3 : (at' != 4) = false := by simpa using z3
      have t4 : (er != 3) = false := by simpa using z4
      clear z1 z2 z3 z4
      have HB1 : Hid (Below w6.heap.size w6 w1) := HBr.out.trans (hb1.mono HBr.out.size)
      have d2' := keep_cell' hb1 d2
      clear HXa hb1 hp1 d d2 HBr
      go_wp2
      go_roundw
      case rel => exact ⟨8, by go_num, by omega, HB1.out⟩
      case measure => simp [intOf]
    · have HXa := hid (parse_any cv ⟨#[105, 110, 102, 105]⟩ 2 0 wr)
      have d := keep_cell' HBr.out L8.out
      have d2 := keep_cell' HBr.out A8.out
      go_wp2_with fail
      refine HXa.out.mono ?_
      rintro e w1 ⟨v, g, at', er, rfl, hb1, hp1⟩
      obtain ⟨z1, z2, z3, z4⟩ := fail_eval (k := 4) (by decide) (by decide +kernel) (prog_spec (Nat.le_refl _) hp1)
      have z3 : at' = 4 := z3
      have t1 : (v != 0) = false := by simpa using z1
      have t2 : (g != 0) = false := by simpa using z2
      have t3 : (at' != 4) = false := by simpa using z3
      have t4 : (er != 3) = false := by simpa using z4
      clear z1 z2 z3 z4
      have HB1 : Hid (Below w6.heap.size w6 w1) := HBr.out.trans (hb1.mono HBr.out.size)
      have d2' := keep_cell' hb1 d2
      clear HXa hb1 hp1 d d2 HBr
      go_wp2
      go_roundw
      case rel => exact ⟨9, by go_num, by omega, HB1.out⟩
      case measure => simp [intOf]
    · have HXa := hid (parse_any cv ⟨#[110, 97, 109]⟩ 2 0 wr)
      have d := keep_cell' HBr.out L9.out
      have d2 := keep_cell' HBr.out A9.out
      go_wp2_with fail
      refine HXa.out.mono ?_
      rintro e w1 ⟨v, g, at', er, rfl, hb1, hp1⟩
      obtain ⟨z1, z2, z3, z4⟩ := fail_eval (k := 2) (by decide) (by decide +kernel) (prog_spec (Nat.le_refl _) hp1)
      have z3 : at' = 2 := z3
      have t1 : (v != 0) = false := by simpa using z1
      have t2 : (g != 0) = false := by simpa using z2
      have t3 : (at' != 2) = false := by simpa using z3
      have t4 : (er != 3) = false := by simpa using z4
      clear z1 z2 z3 z4
      have HB1 : Hid (Below w6.heap.size w6 w1) := HBr.out.trans (hb1.mono HBr.out.size)
      have d2' := keep_cell' hb1 d2
      clear HXa hb1 hp1 d d2 HBr
      go_wp2
      go_roundw
      case rel => exact ⟨10, by go_num, by omega, HB1.out⟩
      case measure => simp [intOf]
    · have HXa := hid (parse_any cv ⟨#[49, 46, 50, 46, 51]⟩ 2 0 wr)
      have d := keep_cell' HBr.out L10.out
      have d2 := keep_cell' HBr.out A10.out
      go_wp2_with fail
      refine HXa.out.mono ?_
      rintro e w1 ⟨v, g, at', er, rfl, hb1, hp1⟩
      obtain ⟨z1, z2, z3, z4⟩ := fail_eval (k := 3) (by decide) (by decide +kernel) (prog_spec (Nat.le_refl _) hp1)
      have z3 : at' = 3 := z3
      have t1 : (v != 0) = false := by simpa using z1
      have t2 : (g != 0) = false := by simpa using z2
      have t3 : (at' != 3) = false := by simpa using z3
      have t4 : (er != 3) = false := by simpa using z4
      clear z1 z2 z3 z4
      have HB1 : Hid (Below w6.heap.size w6 w1) := HBr.out.trans (hb1.mono HBr.out.size)
      have d2' := keep_cell' hb1 d2
      clear HXa hb1 hp1 d d2 HBr
      go_wp2
      go_roundw
      case rel => exact ⟨11, by go_num, by omega, HB1.out⟩
      case measure => simp [intOf]
    · have HXa := hid (parse_any cv ⟨#[45, 45, 49]⟩ 2 0 wr)
      have d := keep_cell' HBr.out L11.out
      have d2 := keep_cell' HBr.out A11.out
      go_wp2_with fail
      refine HXa.out.mono ?_
      rintro e w1 ⟨v, g, at', er, rfl, hb1, hp1⟩
      obtain ⟨z1, z2, z3, z4⟩ := fail_eval (k := 1) (by decide) (by decide +kernel) (prog_spec (Nat.le_refl _) hp1)
      have z3 : at' = 1 := z3
      have t1 : (v != 0) = false := by simpa using z1
      have t2 : (g != 0) = false := by simpa using z2
      have t3 : (at' != 1) = false := by simpa using z3
      have t4 : (er != 3) = false := by simpa using z4
      clear z1 z2 z3 z4
      have HB1 : Hid (Below w6.heap.size w6 w1) := HBr.out.trans (hb1.mono HBr.out.size)
      have d2' := keep_cell' hb1 d2
      clear HXa hb1 hp1 d d2 HBr
      go_wp2
      go_roundw
      case rel => exact ⟨12, by go_num, by omega, HB1.out⟩
      case measure => simp [intOf]
    · have HXa := hid (parse_any cv ⟨#[48, 120, 46, 56, 112, 49]⟩ 2 0 wr)
      have d := keep_cell' HBr.out L12.out
      have d2 := keep_cell' HBr.out A12.out
      go_wp2_with fail
      refine HXa.out.mono ?_
      rintro e w1 ⟨v, g, at', er, rfl, hb1, hp1⟩
      obtain ⟨z1, z2, z3, z4⟩ := fail_eval (k := 2) (by decide) (by decide +kernel) (prog_spec (Nat.le_refl _) hp1)
      have z3 : at' = 2 := z3
      have t1 : (v != 0) = false := by simpa using z1
      have t2 : (g != 0) = false := by simpa using z2
      have t3 : (at' != 2) = false := by simpa using z3
      have t4 : (er != 3) = false := by simpa using z4
      clear z1 z2 z3 z4
      have HB1 : Hid (Below w6.heap.size w6 w1) := HBr.out.trans (hb1.mono HBr.out.size)
      have d2' := keep_cell' hb1 d2
      clear HXa hb1 hp1 d d2 HBr
      go_wp2
      go_roundw
      case rel => exact ⟨13, by go_num, by omega, HB1.out⟩
      case measure => simp [intOf]
    · have HXa := hid (parse_any cv ⟨#[49, 101, 53, 120]⟩ 2 0 wr)
      have d := keep_cell' HBr.out L13.out
      have d2 := keep_cell' HBr.out A13.out
      go_wp2_with fail
      refine HXa.out.mono ?_
      rintro e w1 ⟨v, g, at', er, rfl, hb1, hp1⟩
      obtain ⟨z1, z2, z3, z4⟩ := fail_eval (k := 3) (by decide) (by decide +kernel) (prog_spec (Nat.le_refl _) hp1)
      have z3 : at' = 3 := z3
      have t1 : (v != 0) = false := by simpa using z1
      have t2 : (g != 0) = false := by simpa using z2
      have t3 : (at' != 3) = false := by simpa using z3
      have t4 : (er != 3) = false := by simpa using z4
      clear z1 z2 z3 z4
      have HB1 : Hid (Below w6.heap.size w6 w1) := HBr.out.trans (hb1.mono HBr.out.size)
      have d2' := keep_cell' hb1 d2
      clear HXa hb1 hp1 d d2 HBr
      go_wp2
      go_roundw
      case rel => exact ⟨14, by go_num, by omega, HB1.out⟩
      case measure => simp [intOf]
    · have HXa := hid (parse_any cv ⟨#[49, 69, 53]⟩ 2 0 wr)
      have d := keep_cell' HBr.out L14.out
      have d2 := keep_cell' HBr.out A14.out
      go_wp2_with fail
      refine HXa.out.mono ?_
      rintro e w1 ⟨v, g, at', er, rfl, hb1, hp1⟩
      obtain ⟨z1, z2, z3, z4⟩ := fail_eval (k := 1) (by decide) (by decide +kernel) (prog_spec (Nat.le_refl _) hp1)
      have z3 : at' = 1 := z3
      have t1 : (v != 0) = false := by simpa using z1
      have t2 : (g != 0) = false := by simpa using z2
      have t3 : (at' != 1) = false := by simpa using z3
      have t4 : (er != 3) = false := by simpa using z4
      clear z1 z2 z3 z4
      have HB1 : Hid (Below w6.heap.size w6 w1) := HBr.out.trans (hb1.mono HBr.out.size)
      have d2' := keep_cell' hb1 d2
      clear HXa hb1 hp1 d d2 HBr
      go_wp2
      go_roundw
      case rel => exact ⟨15, by go_num, by omega, HB1.out⟩
      case measure => simp [intOf]
    · have HXa := hid (parse_any cv ⟨#[45, 46, 101, 49]⟩ 2 0 wr)
      have d := keep_cell' HBr.out L15.out
      have d2 := keep_cell' HBr.out A15.out
      go_wp2_with fail
      refine HXa.out.mono ?_
      rintro e w1 ⟨v, g, at', er, rfl, hb1, hp1⟩
      obtain ⟨z1, z2, z3, z4⟩ := fail_eval (k := 2) (by decide) (by decide +kernel) (prog_spec (Nat.le_refl _) hp1)
      have z3 : at' = 2 := z3
      have t1 : (v != 0) = false := by simpa using z1
      have t2 : (g != 0) = false := by simpa using z2
      have t3 : (at' != 2) = false := by simpa using z3
      have t4 : (er != 3) = false := by simpa using z4
      clear z1 z2 z3 z4
      have HB1 : Hid (Below w6.heap.size w6 w1) := HBr.out.trans (hb1.mono HBr.out.size)
      have d2' := keep_cell' hb1 d2
      clear HXa hb1 hp1 d d2 HBr
      go_wp2
      go_roundw
      case rel => exact ⟨16, by go_num, by omega, HB1.out⟩
      case measure => simp [intOf]
    · have HBF : Hid (Below w.heap.size w wr) := HB6.out.trans (HBr.out.mono HB6.out.size)
      have HXa := hid (parse_any cv ⟨#[49]⟩ 3 0 wr)
      clear HBr
      go_wp2_with fail
      refine HXa.out.mono ?_
      rintro e w1 ⟨v, g, at', er, rfl, hb1, hp1⟩
      have z : er = 1 := by
        rcases hp1 with ⟨_, _, _, _, h⟩ | ⟨h, _⟩ | ⟨h, _⟩
        · exact h
        · omega
        · omega
      have t1 : (er == 1) = true := by simpa using z
      clear z
      have HB1 : Hid (Below w.heap.size w w1) := HBF.out.trans (hb1.mono HBF.out.size)
      have HXb := hid (parse_any cv ⟨#[]⟩ 2 5 w1)
      clear HXa hb1 hp1 HBF
      go_wp2_with fail
      refine HXb.out.mono ?_
      rintro e w2 ⟨v2, g2, at2, er2, rfl, hb2, hp2⟩
      have z : er2 = 1 := by
        rcases hp2 with ⟨_, _, _, _, h⟩ | ⟨h, _⟩ | ⟨h, _⟩
        · exact h
        · omega
        · omega
      have t2 : (er2 == 1) = true := by simpa using z
      clear z
      have HB2 : Hid (Below w.heap.size w w2) := HB1.out.trans (hb2.mono HB1.out.size)
      clear HXb hb2 hp2 HB1
      go_wp2
      all_goals (go_ret; exact ⟨rfl, HB2.out⟩)
end Go.Proofs.Ytbkdaoicnobllaa
