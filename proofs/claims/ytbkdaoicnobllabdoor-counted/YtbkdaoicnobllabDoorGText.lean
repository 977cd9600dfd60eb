import Derived.Test.YtbkdaoicnobllabDoorGRefA
import Derived.Lib.ItoaNum
import Derived.Laws.IdiomStrings
import Derived.Test.YtbkdaoicnobllabDoorGMath
import Derived.Test.YtbkdaoicnobllabDoorGMem
import Derived.Lib.ItoaLen

namespace Go.Proofs.YtbkdaoicnobllabDoor
open Go.RowKit

/-- A row of bytes as a string. -/
def str (l : List UInt8) : ByteArray := ⟨l.toArray⟩
theorem str_append (a b : List UInt8) : str a ++ str b = str (a ++ b) := by
  apply ByteArray.ext; rw [ByteArray.data_append]; simp [str]
theorem str_size (a : List UInt8) : (str a).size = a.length := by simp [str, ByteArray.size]
theorem str_nil : str [] = ByteArray.empty := rfl
/-- The text of one digit. -/
def dstr (n : Nat) : ByteArray := str [UInt8.ofNat (48 + n)]
theorem dstr_size (n : Nat) : (dstr n).size = 1 := by unfold dstr; rw [str_size]; rfl
theorem ret_str {a b : ByteArray} (h : a = b) : Ending.returned (.string a) = .returned (.string b) := by rw [h]
theorem dec_small (n : Nat) (h : n < 10) : Lib.decDigits n = [UInt8.ofNat (48 + n)] := by rw [Lib.decDigits, dif_pos h]
theorem dec_more (n : Nat) (h : ¬ n < 10) : Lib.decDigits n = Lib.decDigits (n / 10) ++ [UInt8.ofNat (48 + n % 10)] := by rw [Lib.decDigits, dif_neg h]
theorem dec_len : ∀ (m n : Nat), n < 10 ^ (m + 1) → (Lib.decDigits n).length ≤ m + 1 := by
  intro m
  induction m with
  | zero => intro n h; rw [dec_small n (by simpa using h)]; simp
  | succ m ih =>
    intro n h
    by_cases h10 : n < 10
    · rw [dec_small n h10]; simp
    · rw [dec_more n h10]
      have := ih (n / 10) (by rw [Nat.div_lt_iff_lt_mul (by omega), ← Nat.pow_succ]; exact h)
      simp; omega
theorem conv_byte (n : Nat) (h : n < 10) (w : World) :
    (convert 72 9 (.slice (some ⟨w.heap.size, 0, none⟩) 1 1)).run Tryd.prog (w.alloc (.cells #[.int .u8 (48 + (n : Int))] 5)) = .ok (.string (dstr n)) (w.alloc (.cells #[.int .u8 (48 + (n : Int))] 5)) := by
  have := run_convert_bytes_back (P := Tryd.prog) (w.alloc (.cells #[.int .u8 (48 + (n : Int))] 5)) 72 9 5 ⟨w.heap.size, 0, none⟩ 1 [UInt8.ofNat (48 + n)] Tryd.underlying72 Tryd.underlying5 Tryd.underlying9 (fun j hj => by
    simp at hj
    subst hj
    have e : (UInt8.ofNat (48 + n)).toNat = 48 + n := by simp; omega
    simp [go_sem, Addr.add]
    omega)
  exact this
end Go.Proofs.YtbkdaoicnobllabDoor

namespace Go.Proofs.YtbkdaoicnobllabDoor
open Go.RowKit

/-- Two rows with a point between, if the second is one. -/
def ptd (a b : List UInt8) : List UInt8 := if b = [] then a else a ++ (46 :: b)
theorem str_toList (b : List UInt8) : (str b).toList = b := ByteArray.toList_mk b
end Go.Proofs.YtbkdaoicnobllabDoor

namespace Go.Proofs.YtbkdaoicnobllabDoor
open Go.RowKit

/-- The text of base 16. -/
def hexS (T : List UInt8) (E : Int) : List UInt8 := ptd [48, 120, 49] T ++ (112 :: Lib.itoa E)
def sizeS : Value → Nat
  | .string s => s.size
  | _ => 0
/-- The byte of a digit of base 16, as a string. -/
def hstr (d : Nat) : ByteArray := str [hexD d]
theorem hstr_size (d : Nat) : (hstr d).size = 1 := by unfold hstr; rw [str_size]; rfl
theorem pow_gt {k B m M : Nat} (h : m * 2 ^ k = M) (hm : 0 < m) (hM : M < 2 ^ B) : k < B := by
  apply Nat.lt_of_not_le; intro hle
  have h1 : 2 ^ B ≤ 2 ^ k := Nat.pow_le_pow_right (by omega) hle
  have h2 : 1 * 2 ^ k ≤ m * 2 ^ k := Nat.mul_le_mul_right _ hm
  omega
theorem hex_join {m0 k j r n : Nat} {e0 : Int} (h1 : m0 * 2 ^ k = 2 ^ (j + k) + r) (h2 : r < 2 ^ (j + k)) (h3 : HexEnd (2 ^ (j + k)) r n) : HexText m0 e0 (hexP (2 ^ (j + k)) r n) (e0 + j) := by
  have hp : 0 < 2 ^ k := Nat.pow_pos (by omega)
  rw [Nat.pow_add] at h1 h2 h3 ⊢
  have hge : 2 ^ j ≤ m0 := by
    apply Nat.le_of_mul_le_mul_right (c := 2 ^ k) _ hp; omega
  have hlt : m0 < 2 ^ (j + 1) := by
    apply Nat.lt_of_mul_lt_mul_right (a := 2 ^ k)
    rw [Nat.pow_succ, Nat.mul_assoc, Nat.mul_comm 2, ← Nat.mul_assoc]; omega
  have hr : r = (m0 - 2 ^ j) * 2 ^ k := by rw [Nat.sub_mul]; omega
  subst hr
  refine ⟨j, n, ⟨hge, hlt⟩, h3.scale hp, ?_, rfl⟩
  exact hexP_scale _ _ _ _ hp
theorem hex_sub (d : Nat) (h : d < 16) : (⟨#[48, 49, 50, 51, 52, 53, 54, 55, 56, 57, 97, 98, 99, 100, 101, 102]⟩ : ByteArray).extract d (d + 1) = hstr d := by
  rcases (by omega : d = 0 ∨ d = 1 ∨ d = 2 ∨ d = 3 ∨ d = 4 ∨ d = 5 ∨ d = 6 ∨ d = 7 ∨ d = 8 ∨ d = 9 ∨ d = 10 ∨ d = 11 ∨ d = 12 ∨ d = 13 ∨ d = 14 ∨ d = 15) with rfl | rfl | rfl | rfl | rfl | rfl | rfl | rfl | rfl | rfl | rfl | rfl | rfl | rfl | rfl | rfl
  all_goals decide +kernel
end Go.Proofs.YtbkdaoicnobllabDoor
