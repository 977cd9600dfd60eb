import Derived.WalkKit
import Derived.Test.YtbkdaoicnobllabDoorGMath

/- Rows of small numbers in memory. Nothing of the program but the model. -/
namespace Go.Proofs.YtbkdaoicnobllabDoor
open Go.RowKit

theorem hid {p : Prop} (h : p) : Hid p := h
theorem ret_int {k : IntKind} {a b : Int} (h : a = b) : Ending.returned (.int k a) = .returned (.int k b) := by rw [h]

/-- A slice value that reads as the row L. -/
def Row (w : World) (v : Value) (L : List Nat) : Prop :=
  (L = [] ∧ v = .slice none 0 0) ∨
  ∃ b off cap, v = .slice (some ⟨b, off, none⟩) L.length cap ∧ L.length ≤ cap ∧ cap ≤ maxLen ∧ b < w.heap.size ∧ ∀ j, j < L.length → w.cell? ⟨b, off + j, none⟩ = some (.int .i64 (L.getD j 0 : Nat))

theorem Row.nil (w : World) : Row w (.slice none 0 0) [] := .inl ⟨rfl, rfl⟩
theorem Row.below {w w' : World} {v : Value} {L : List Nat} {B : Nat} (h : Row w v L) (hb : Below B w w') (hB : w.heap.size ≤ B) : Row w' v L := by
  rcases h with h | ⟨b, off, cap, rfl, h1, h2, h3, h4⟩
  · exact .inl h
  · exact .inr ⟨b, off, cap, rfl, h1, h2, by have := hb.size; omega, fun j hj => (hb.cell (p := ⟨b, off + j, none⟩) (by show b < B; omega)).trans (h4 j hj)⟩

def ints (O : List Nat) : List Value := O.map fun d => Value.int .i64 (d : Nat)
theorem ints_getElem? (O : List Nat) (j : Nat) : (ints O)[j]? = if j < O.length then some (.int .i64 (O.getD j 0 : Nat)) else none := by
  unfold ints
  rw [List.getElem?_map]
  split
  · rename_i h; rw [List.getElem?_eq_getElem h, List.getD_eq_getElem?_getD, List.getElem?_eq_getElem h]; rfl
  · rename_i h; rw [List.getElem?_eq_none (by omega)]; rfl
theorem ints_append (a b : List Nat) : ints (a ++ b) = ints a ++ ints b := by simp [ints]
theorem ints_length (a : List Nat) : (ints a).length = a.length := by simp [ints]
theorem ints_one (d : Nat) : ints [d] = [Value.int .i64 (d : Nat)] := rfl
theorem ints_oneCell (a : List Nat) : ∀ u ∈ ints a, u.oneCell' = true := by
  intro u hu; simp [ints] at hu; obtain ⟨d, _, rfl⟩ := hu; rfl
theorem ints_set (a : List Nat) (j d : Nat) : (ints a).set j (.int .i64 (d : Nat)) = ints (a.set j d) := by simp [ints, List.map_set]
theorem ints_replicate (n : Nat) : List.replicate n (Value.int .i64 0) = ints (List.replicate n 0) := by simp [ints]
/-- A row that the call owns. -/
def Own (w : World) (base : Nat) (v : Value) (O : List Nat) : Prop := w.ownsRow base 3 1 v O.length (ints O)
theorem Own.nil (w : World) (base : Nat) : Own w base (.slice none 0 0) [] := World.ownsRow_nil w base _ _
theorem Own.row {w : World} {base : Nat} {v : Value} {O : List Nat} (h : Own w base v O) : Row w v O := by
  unfold Own at h
  rcases h.2 with ⟨rfl, h0⟩ | ⟨g, cap, cur, rfl, hb, hg, h1, h2, h3, h4⟩
  · exact .inl ⟨List.length_eq_zero_iff.1 h0, rfl⟩
  · refine .inr ⟨g, 0, cap, rfl, h1, h2, (Array.getElem?_eq_some_iff.1 hg).1, fun j hj => ?_⟩
    rw [Nat.zero_add, h.cellAt j (by omega), ints_getElem?, if_pos hj]

theorem Own.snoc {w : World} {base : Nat} {v : Value} {O : List Nat} {k : Nat} {z : Int} {d : Nat} (h : w.ownsRow base 3 1 v (k + 1) (ints O ++ [.int .i64 z])) (hO : O.length = k) (hz : z = (d : Nat)) : Own w base v (O ++ [d]) := by
  subst hz; unfold Own; rw [ints_append]; simp only [List.length_append, List.length_singleton]; rw [hO]; exact h
theorem Own.owns {w : World} {base : Nat} {v : Value} {O : List Nat} (h : Own w base v O) : w.ownsRow base 3 1 v O.length (ints O) := h
theorem Own.below {w w' : World} {base : Nat} {v : Value} {O : List Nat} (h : Own w base v O) {B : Nat} (hb : Below B w w') (hB : w.heap.size ≤ B) : Own w' base v O := by
  refine ⟨h.1, ?_⟩
  rcases h.2 with h2 | ⟨g, cap, cur, hv, hg, hh, r⟩
  · exact .inl h2
  · exact .inr ⟨g, cap, cur, hv, hg, by rw [hb.block g (Nat.lt_of_lt_of_le (Array.getElem?_eq_some_iff.1 hh).1 hB)]; exact hh, r⟩

theorem Own.form {w : World} {base : Nat} {v : Value} {O : List Nat} (h : Own w base v O) :
    (O = [] ∧ v = .slice none 0 0) ∨ ∃ g cap, v = .slice (some ⟨g, 0, none⟩) O.length cap ∧ base ≤ g ∧ g < w.heap.size ∧ O.length ≤ cap ∧ cap ≤ maxLen := by
  rcases h.2 with ⟨rfl, h0⟩ | ⟨g, cap, cur, rfl, hb, hg, h1, h2, _⟩
  · exact .inl ⟨List.length_eq_zero_iff.1 h0, rfl⟩
  · exact .inr ⟨g, cap, rfl, hb, (Array.getElem?_eq_some_iff.1 hg).1, h1, h2⟩
theorem Own.cell {w : World} {base g cap n : Nat} {O : List Nat} (h : Own w base (.slice (some ⟨g, 0, none⟩) n cap) O) (hn : O.length = n) (j : Nat) (hj : j < n) : w.cell? ⟨g, j, none⟩ = some (.int .i64 (O.getD j 0 : Nat)) := by
  unfold Own at h; rw [hn] at h
  rw [h.cellAt j (by omega), ints_getElem?, if_pos (by omega)]
theorem Own.frozen {w : World} {base g cap n : Nat} {O : List Nat} (h : Own w base (.slice (some ⟨g, 0, none⟩) n cap) O) (hn : O.length = n) (j : Nat) : w.frozen? ⟨g, j, none⟩ = false := by
  unfold Own at h; rw [hn] at h
  exact h.frozenAt j
theorem Own.store {w : World} {base g cap n : Nat} {O : List Nat} (h : Own w base (.slice (some ⟨g, 0, none⟩) n cap) O) (hn : O.length = n) (j d : Nat) : Own (w.setCell ⟨g, j, none⟩ (.int .i64 (d : Nat))) base (.slice (some ⟨g, 0, none⟩) n cap) (O.set j d) := by
  unfold Own at h ⊢; rw [hn] at h; rw [List.length_set, hn, ← ints_set]
  exact (h.stored j _).1

theorem Row.setCell {w : World} {v : Value} {L : List Nat} (h : Row w v L) (a : Addr) (u : Value) (hne : v.ownBlock ≠ some a.block) : Row (w.setCell a u) v L := by
  rcases h with h | ⟨b, off, cap, rfl, h1, h2, h3, h4⟩
  · exact .inl h
  · refine .inr ⟨b, off, cap, rfl, h1, h2, by simpa [World.setCell] using h3, fun j hj => ?_⟩
    rw [← h4 j hj]
    exact World.cell?_of_block (Below.heap_setCell w a u b (fun e => hne (by simp [Value.ownBlock, e])))
theorem Row.form {w : World} {v : Value} {L : List Nat} (h : Row w v L) : (L = [] ∧ v = .slice none 0 0) ∨ ∃ b off cap, v = .slice (some ⟨b, off, none⟩) L.length cap ∧ L.length ≤ cap ∧ cap ≤ maxLen ∧ b < w.heap.size := by
  rcases h with h | ⟨b, off, cap, rfl, h1, h2, h3, h4⟩
  · exact .inl h
  · exact .inr ⟨b, off, cap, rfl, h1, h2, h3⟩
theorem Row.isSlice {w : World} {v : Value} {L : List Nat} (h : Row w v L) : ∃ ao cap, v = .slice ao L.length cap := by
  rcases h.form with ⟨rfl, rfl⟩ | ⟨b, off, cap, rfl, _⟩
  · exact ⟨_, _, rfl⟩
  · exact ⟨_, _, rfl⟩
theorem Row.lt {w : World} {v : Value} {L : List Nat} (h : Row w v L) (g : Nat) (hg : v.ownBlock = some g) : g < w.heap.size := by
  rcases h.form with ⟨rfl, rfl⟩ | ⟨b, off, cap, rfl, _, _, h3⟩
  · simp [Value.ownBlock] at hg
  · simp [Value.ownBlock] at hg; omega

/-- A decimal that a call hands back: of at most 'len' digits, its places from 'lo' to below 'hi', its row in a block of which 'own' holds, its number times 10^K being V K. -/
structure Out (w : World) (v : Value) (L : List Nat) (e : Int) (len : Nat) (lo hi : Int) (own : Nat → Prop) (V : Nat → Nat) : Prop where
  row : Row w v L
  own : ∀ g, v.ownBlock = some g → own g
  norm : Norm L
  len : L.length ≤ len
  nil : L = [] → e = 0
  ne : L ≠ [] → lo ≤ e ∧ e + L.length ≤ hi
  val : ∀ K : Nat, -(K : Int) ≤ lo → val K L e = V K
theorem Out.setCell {w : World} {v : Value} {L : List Nat} {e : Int} {len : Nat} {lo hi : Int} {own : Nat → Prop} {V : Nat → Nat} (h : Out w v L e len lo hi own V) (a : Addr) (u : Value) (hne : ¬ own a.block) : Out (w.setCell a u) v L e len lo hi own V :=
  ⟨h.row.setCell a u (fun hh => hne (h.own _ hh)), h.own, h.norm, h.len, h.nil, h.ne, h.val⟩
theorem Out.below {w w' : World} {v : Value} {L : List Nat} {e : Int} {len : Nat} {lo hi : Int} {own : Nat → Prop} {V : Nat → Nat} (h : Out w v L e len lo hi own V) {B : Nat} (hb : Below B w w') (hB : w.heap.size ≤ B) : Out w' v L e len lo hi own V :=
  ⟨h.row.below hb hB, h.own, h.norm, h.len, h.nil, h.ne, h.val⟩
theorem Out.mono {w : World} {v : Value} {L : List Nat} {e : Int} {len len' : Nat} {lo hi lo' hi' : Int} {own own' : Nat → Prop} {V V' : Nat → Nat} (h : Out w v L e len lo hi own V) (h1 : len ≤ len') (h2 : lo' ≤ lo) (h3 : hi ≤ hi') (h4 : ∀ g, own g → own' g) (h5 : ∀ K : Nat, -(K : Int) ≤ lo' → V K = V' K) : Out w v L e len' lo' hi' own' V' :=
  ⟨h.row, fun g hg => h4 g (h.own g hg), h.norm, Nat.le_trans h.len h1, h.nil, fun hh => ⟨Int.le_trans h2 (h.ne hh).1, Int.le_trans (h.ne hh).2 h3⟩, fun K hK => (h.val K (Int.le_trans hK h2)).trans (h5 K hK)⟩
theorem Out.bounds {w : World} {v : Value} {L : List Nat} {e : Int} {len : Nat} {lo hi : Int} {own : Nat → Prop} {V : Nat → Nat} (h : Out w v L e len lo hi own V) (M : Int) (hl : -M ≤ lo) (hh : hi ≤ M) (h0 : 0 ≤ M) : -M ≤ e ∧ e ≤ M := by
  by_cases hL : L = []
  · rw [h.nil hL]; omega
  · have := h.ne hL; omega

end Go.Proofs.YtbkdaoicnobllabDoor

/- Natural numbers as rows of limbs, the lowest first. -/
namespace Go.Proofs.YtbkdaoicnobllabDoor
open Go.RowKit

def nv : List Nat → Nat
  | [] => 0
  | d :: r => d + 1073741824 * nv r
def Lim (L : List Nat) : Prop := ∀ d, d ∈ L → d < 1073741824
theorem nv_append (a b : List Nat) : nv (a ++ b) = nv a + 1073741824 ^ a.length * nv b := by
  induction a with
  | nil => simp [nv]
  | cons d r ih =>
    simp only [List.cons_append, nv, ih, List.length_cons, Nat.pow_succ]
    rw [Nat.mul_add, Nat.mul_comm (1073741824 ^ r.length) 1073741824, Nat.mul_assoc, Nat.add_assoc]
theorem nv_snoc (a : List Nat) (d : Nat) : nv (a ++ [d]) = nv a + 1073741824 ^ a.length * d := by rw [nv_append]; simp [nv]
theorem nv_take_succ (L : List Nat) (i : Nat) (h : i < L.length) : nv (L.take (i + 1)) = nv (L.take i) + 1073741824 ^ i * L.getD i 0 := by
  rw [take_succ_getD L i h, nv_snoc, List.length_take, Nat.min_eq_left (by omega)]
theorem Lim.getD {L : List Nat} (h : Lim L) (i : Nat) : L.getD i 0 < 1073741824 := by
  rw [List.getD_eq_getElem?_getD]
  cases hi : L[i]? with
  | none => simp
  | some d => simpa using h d (List.mem_of_getElem? hi)
theorem Lim.set {L : List Nat} (h : Lim L) (i d : Nat) (hd : d < 1073741824) : Lim (L.set i d) := by
  intro x hx
  rcases List.mem_or_eq_of_mem_set hx with hx | rfl
  · exact h x hx
  · exact hd
theorem Lim.snoc {L : List Nat} (h : Lim L) (d : Nat) (hd : d < 1073741824) : Lim (L ++ [d]) := by
  intro x hx; rcases List.mem_append.1 hx with hx | hx
  · exact h x hx
  · rw [List.mem_singleton.1 hx]; exact hd
theorem Lim.take {L : List Nat} (h : Lim L) (n : Nat) : Lim (L.take n) := fun x hx => h x (List.mem_of_mem_take hx)
theorem nv_lt {L : List Nat} (h : Lim L) : nv L < 1073741824 ^ L.length := by
  induction L with
  | nil => simp [nv]
  | cons d r ih =>
    have h1 := ih (fun x hx => h x (List.mem_cons_of_mem _ hx))
    have h2 := h d List.mem_cons_self
    simp only [nv, List.length_cons, Nat.pow_succ]; omega
theorem nv_take_zeros (L : List Nat) (z : Nat) (h : ∀ j, z ≤ j → j < L.length → L.getD j 0 = 0) : nv (L.take z) = nv L := by
  induction L generalizing z with
  | nil => simp
  | cons d r ih =>
    cases z with
    | zero =>
      have h0 := h 0 (by omega) (by simp)
      simp at h0
      have := ih 0 (fun j _ hj => by have := h (j + 1) (by omega) (by simp; omega); simpa using this)
      simp [nv] at this ⊢
      rw [← this, h0]
    | succ z =>
      rw [List.take_succ_cons]
      simp only [nv]
      rw [ih z (fun j h1 hj => by have := h (j + 1) (by omega) (by simp; omega); simpa using this)]
/-- A limb's step of a product. -/
theorem mul_step (L M : List Nat) (i f c : Nat) (a : Nat) (hi : i < L.length) (hM : M.length = L.length)
    (h : nv (M.take i) + c * 1073741824 ^ i = nv (L.take i) * f + a) :
    nv ((M.set i ((L.getD i 0 * f + c) % 1073741824)).take (i + 1)) + (L.getD i 0 * f + c) / 1073741824 * 1073741824 ^ (i + 1) = nv (L.take (i + 1)) * f + a := by
  have e1 : (M.set i ((L.getD i 0 * f + c) % 1073741824)).take i = M.take i := by rw [List.take_set]; exact List.set_eq_of_length_le (by rw [List.length_take]; omega)
  rw [nv_take_succ _ i (by simp; omega), e1, getD_set M i i _ (by omega), if_pos rfl, nv_take_succ L i hi, Nat.pow_succ]
  generalize L.getD i 0 = x at *
  generalize 1073741824 ^ i = P at *
  have hs : P * ((x * f + c) % 1073741824) + (x * f + c) / 1073741824 * (P * 1073741824) = P * (x * f + c) := by
    have h2 : (x * f + c) % 1073741824 + 1073741824 * ((x * f + c) / 1073741824) = x * f + c := Nat.mod_add_div _ _
    calc P * ((x * f + c) % 1073741824) + (x * f + c) / 1073741824 * (P * 1073741824) = P * ((x * f + c) % 1073741824 + 1073741824 * ((x * f + c) / 1073741824)) := by grind
      _ = _ := by rw [h2]
  rw [Nat.add_assoc, hs, Nat.add_mul]
  have e3 : nv (M.take i) + P * (x * f + c) = (nv (M.take i) + c * P) + P * x * f := by grind
  rw [e3, h]; omega

/-- All blocks but those of S are as they were. -/
structure Turn (S : Nat → Prop) (w w' : World) : Prop where
  os : w'.os = w.os
  tape : w'.tape = w.tape
  output : w'.output = w.output
  size : w.heap.size ≤ w'.heap.size
  block : ∀ k, k < w.heap.size → ¬ S k → w'.heap[k]? = w.heap[k]?
theorem Turn.refl (S : Nat → Prop) (w : World) : Turn S w w := ⟨rfl, rfl, rfl, Nat.le_refl _, fun _ _ _ => rfl⟩
theorem Turn.trans {S S2 : Nat → Prop} {w w1 w2 : World} (h : Turn S w w1) (k : Turn S2 w1 w2) (hs : ∀ j, j < w.heap.size → S2 j → S j) : Turn S w w2 :=
  ⟨k.os.trans h.os, k.tape.trans h.tape, k.output.trans h.output, Nat.le_trans h.size k.size, fun j hj hn => (k.block j (Nat.lt_of_lt_of_le hj h.size) (fun h2 => hn (hs j hj h2))).trans (h.block j hj hn)⟩
theorem Turn.mono {S S2 : Nat → Prop} {w w1 : World} (h : Turn S w w1) (hs : ∀ j, j < w.heap.size → S j → S2 j) : Turn S2 w w1 :=
  ⟨h.os, h.tape, h.output, h.size, fun j hj hn => h.block j hj (fun h2 => hn (hs j hj h2))⟩
theorem Turn.setCell {S : Nat → Prop} {w w1 : World} (h : Turn S w w1) (a : Addr) (u : Value) (ha : S a.block) : Turn S w (w1.setCell a u) :=
  ⟨h.os, h.tape, h.output, by simpa [World.setCell] using h.size, fun j hj hn => (Below.heap_setCell w1 a u j (fun e => hn (e ▸ ha))).trans (h.block j hj hn)⟩
theorem Turn.below {S : Nat → Prop} {w w1 w2 : World} (h : Turn S w w1) (hb : Below w1.heap.size w1 w2) : Turn S w w2 :=
  ⟨hb.os.trans h.os, hb.tape.trans h.tape, hb.output.trans h.output, Nat.le_trans h.size hb.size, fun j hj hn => (hb.block j (Nat.lt_of_lt_of_le hj h.size)).trans (h.block j hj hn)⟩
theorem Turn.grown {S : Nat → Prop} {w w1 w2 : World} {row : Option Nat} (h : Turn S w w1) (hg : w1.grownBy w2 row) (hr : ∀ k, row = some k → k < w.heap.size → S k) : Turn S w w2 :=
  ⟨hg.os.trans h.os, hg.tape.trans h.tape, hg.output.trans h.output, Nat.le_trans h.size hg.size, fun j hj hn => (hg.block j (Nat.lt_of_lt_of_le hj h.size) (fun e => hn (hr j e.symm hj))).trans (h.block j hj hn)⟩

/-- A Nat of package nat at block b. -/
structure NatAt (w : World) (b : Nat) (v : Value) (L : List Nat) : Prop where
  cell : w.cell? ⟨b, 0, none⟩ = some v
  frozen : w.frozen? ⟨b, 0, none⟩ = false
  own : Own w 0 v L
  apart : v.ownBlock ≠ some b
  lim : Lim L
  nrm : 0 < L.length → L.getD (L.length - 1) 0 ≠ 0
/-- The blocks of a Nat. -/
def Foot (b : Nat) (v : Value) (k : Nat) : Prop := k = b ∨ v.ownBlock = some k
theorem keep_cell' {w w' : World} {a : Addr} {v : Value} (hb : Below w.heap.size w w') (h : w.cell? a = some v) : w'.cell? a = some v :=
  (hb.cell (p := a) (World.block_lt_of_cell? w a h)).trans h
theorem cell_of_turn {S : Nat → Prop} {w w1 : World} (h : Turn S w w1) {a : Addr} {v : Value} (hc : w.cell? a = some v) (hn : ¬ S a.block) : w1.cell? a = some v :=
  (World.cell?_of_block (w := w) (h.block a.block (World.block_lt_of_cell? w a hc) hn)).trans hc
theorem NatAt.turn {S : Nat → Prop} {w w1 : World} {b : Nat} {v : Value} {L : List Nat} (h : NatAt w b v L) (ht : Turn S w w1) (hs : ∀ k, Foot b v k → ¬ S k) : NatAt w1 b v L := by
  have hb := World.block_lt_of_cell? w _ h.cell
  refine ⟨cell_of_turn ht h.cell (hs _ (.inl rfl)), ?_, ?_, h.apart, h.lim, h.nrm⟩
  · rw [World.frozen?_of_block (w := w) (ht.block b hb (hs _ (.inl rfl)))]; exact h.frozen
  · refine ⟨h.own.1, ?_⟩
    rcases h.own.2 with h2 | ⟨g, cap, cur, hv, hg, hh, r⟩
    · exact .inl h2
    · exact .inr ⟨g, cap, cur, hv, hg, by rw [ht.block g (Array.getElem?_eq_some_iff.1 hh).1 (hs _ (.inr (by rw [hv]; rfl)))]; exact hh, r⟩

theorem NatAt.mk_set {w : World} {b : Nat} {v v' : Value} {L : List Nat} (hc : w.cell? ⟨b, 0, none⟩ = some v) (hf : w.frozen? ⟨b, 0, none⟩ = false) (ho : Own w 0 v' L) (hap : v'.ownBlock ≠ some b) (hl : Lim L) (hn : 0 < L.length → L.getD (L.length - 1) 0 ≠ 0) : NatAt (w.setCell ⟨b, 0, none⟩ v') b v' L := by
  refine ⟨World.cell?_setCell_same' _ _ _ (by rw [hc]; rfl), by rw [show (w.setCell ⟨b, 0, none⟩ v').frozen? ⟨b, 0, none⟩ = w.frozen? ⟨b, 0, none⟩ from by simp [go_sem]]; exact hf, ?_, hap, hl, hn⟩
  refine ⟨ho.1, ?_⟩
  rcases ho.2 with h2 | ⟨g, cap, cur, hv, hg, hh, r⟩
  · exact .inl h2
  · exact .inr ⟨g, cap, cur, hv, hg, by rw [Below.heap_setCell _ _ _ _ (fun e => hap (by rw [hv, e]; rfl))]; exact hh, r⟩
theorem Own.cutTo {w : World} {g n cap : Nat} {L : List Nat} (h : Own w 0 (.slice (some ⟨g, 0, none⟩) n cap) L) (hn : L.length = n) (m : Nat) (hm : m ≤ n) : Own w 0 (.slice (some ⟨g, 0, none⟩) m cap) (L.take m) := by
  unfold Own at *
  have hlen : (L.take m).length = m := by rw [List.length_take]; omega
  rw [hlen]
  refine ⟨by rw [ints_length, hlen]; omega, .inr ?_⟩
  rcases h.2 with ⟨h2, _⟩ | ⟨g', cap', cur, hv, hg, hh, h1, h3, h4, h5⟩
  · cases h2
  · rw [hn] at hv h1 h5
    simp only [Value.slice.injEq, Option.some.injEq, Addr.mk.injEq, and_true, true_and] at hv
    obtain ⟨rfl, rfl⟩ := hv
    refine ⟨g, cap, cur, rfl, hg, hh, by omega, h3, h4, ?_⟩
    rw [Nat.mul_one] at *
    have : ints (L.take m) = (ints L).take m := by unfold ints; rw [List.map_take]
    rw [this, ← h5, List.take_take, Nat.min_eq_left hm]

/-- What an operation on a Nat leaves: the Nat, with the number V, of at most 'len' limbs; nothing else has turned; its row is the old one or new. -/
def NatPost (w w' : World) (b : Nat) (v : Value) (V len : Nat) : Prop :=
  ∃ v' L', NatAt w' b v' L' ∧ nv L' = V ∧ L'.length ≤ len ∧ Turn (Foot b v) w w' ∧ (v'.ownBlock = v.ownBlock ∨ ∃ g, v'.ownBlock = some g ∧ w.heap.size ≤ g)
theorem NatPost.of_set {w : World} {b : Nat} {v v' : Value} {L : List Nat} {V len : Nat} (h : NatAt (w.setCell ⟨b, 0, none⟩ v') b v' L) (hv : nv L = V) (hl : L.length ≤ len) (ho : v'.ownBlock = v.ownBlock) : NatPost w (w.setCell ⟨b, 0, none⟩ v') b v V len :=
  ⟨v', L, h, hv, hl, (Turn.refl _ _).setCell _ _ (.inl rfl), .inl ho⟩

end Go.Proofs.YtbkdaoicnobllabDoor

/- Plain mathematics: limbs as digits. -/
namespace Go.Proofs.YtbkdaoicnobllabDoor
open Go.RowKit

theorem nv_drop (L : List Nat) (i : Nat) (h : i < L.length) : nv (L.drop i) = L.getD i 0 + 1073741824 * nv (L.drop (i + 1)) := by
  rw [List.drop_eq_getElem_cons h, nv, List.getD_eq_getElem?_getD, List.getElem?_eq_getElem h]; rfl
/-- A limb's step of a division by a billion. -/
theorem bill_step (L M : List Nat) (i o : Nat) (hi : i < L.length) (hM : M.length = L.length) (h : nv (M.drop (i + 1)) * 1000000000 + o = nv (L.drop (i + 1))) :
    nv ((M.set i ((o * 1073741824 + L.getD i 0) / 1000000000)).drop i) * 1000000000 + (o * 1073741824 + L.getD i 0) % 1000000000 = nv (L.drop i) := by
  have e1 : (M.set i ((o * 1073741824 + L.getD i 0) / 1000000000)).drop (i + 1) = M.drop (i + 1) := by
    rw [List.drop_set]; simp
  rw [nv_drop _ i (by simp; omega), e1, getD_set M i i _ (by omega), if_pos rfl, nv_drop L i hi, ← h]
  generalize nv (M.drop (i + 1)) = A at *
  have h2 : (o * 1073741824 + L.getD i 0) % 1000000000 + 1000000000 * ((o * 1073741824 + L.getD i 0) / 1000000000) = o * 1073741824 + L.getD i 0 := Nat.mod_add_div _ _
  generalize (o * 1073741824 + L.getD i 0) % 1000000000 = r at *
  generalize (o * 1073741824 + L.getD i 0) / 1000000000 = q at *
  grind
theorem bill_lt (o x : Nat) (ho : o < 1000000000) (hx : x < 1073741824) : (o * 1073741824 + x) / 1000000000 < 1073741824 := by omega
theorem bill_end {L M : List Nat} {o : Nat} (ho : o < 1000000000) (h : nv M * 1000000000 + o = nv L) : nv M = nv L / 1000000000 ∧ o = nv L % 1000000000 := by omega

/-- A digit's step of a row that is turned, its noughts left out. -/
theorem le_take_succ (O : List Nat) (i : Nat) (h : i < O.length) : le (O.take (i + 1)) = le (O.take i) + O.getD i 0 * 10 ^ i := by
  rw [take_succ_getD O i h, le_append, List.length_take, Nat.min_eq_left (by omega)]
  simp only [le]; rw [Nat.mul_comm]; simp
/-- A row R so far: of the digits of O from i on. -/
def TurnSt (O R : List Nat) (i : Nat) : Prop := Digs R ∧ Headed R ∧ num R * 10 ^ i + le (O.take i) = le O
theorem TurnSt.start (O : List Nat) : TurnSt O [] O.length := ⟨Digs.nil, fun h => by simp at h, by rw [List.take_length, num_nil]; simp⟩
theorem TurnSt.put {O R : List Nat} {i : Nat} (hO : Digs O) (h : TurnSt O R (i + 1)) (hi : i < O.length) (h0 : 0 < O.getD i 0 ∨ 0 < R.length) : TurnSt O (R ++ [O.getD i 0]) i := by
  obtain ⟨h1, h2, h3⟩ := h
  refine ⟨h1.append (Digs.cons (hO.getD i) Digs.nil), fun hl => ?_, ?_⟩
  · cases R with
    | nil => simp at h0; simp; omega
    | cons a r => have := h2 (by simp); simpa using this
  · rw [num_snoc, ← h3, le_take_succ O i hi, Nat.pow_succ]; grind
theorem TurnSt.pass {O R : List Nat} {i : Nat} (h : TurnSt O R (i + 1)) (hi : i < O.length) (h0 : O.getD i 0 = 0) (hR : R = []) : TurnSt O R i := by
  obtain ⟨h1, h2, h3⟩ := h
  refine ⟨h1, h2, ?_⟩
  rw [← h3, le_take_succ O i hi, h0, hR, num_nil]; simp
theorem TurnSt.done {O R : List Nat} (h : TurnSt O R 0) : num R = le O := by
  have := h.2.2; simpa [le] using this
/-- Whether more is left. -/
theorem digits_more {O : List Nat} {N V n : Nat} (h : le O + N * 10 ^ O.length = V) (hV : V < 1073741824 ^ n) (hN : 0 < N) : O.length < 10 * n := by
  apply Nat.lt_of_not_le; intro hle
  have h1 : 10 ^ (10 * n) ≤ 10 ^ O.length := Nat.pow_le_pow_right (by omega) hle
  have h2 : 1 * 10 ^ O.length ≤ N * 10 ^ O.length := Nat.mul_le_mul_right _ hN
  have h3 : 1073741824 ^ n ≤ (10 ^ 10) ^ n := Nat.pow_le_pow_left (by omega) n
  rw [← Nat.pow_mul] at h3
  omega
theorem digits_step {O O' : List Nat} {N V : Nat} (h : le O + N * 10 ^ O.length = V) (hl : O'.length = O.length + 9) (h2 : le O' + 0 * 10 ^ O'.length = le O + N % 1000000000 * 10 ^ O.length) : le O' + N / 1000000000 * 10 ^ O'.length = V := by
  rw [← h, hl, Nat.pow_add, show (10 : Nat) ^ 9 = 1000000000 from by decide]
  have h3 : N % 1000000000 + 1000000000 * (N / 1000000000) = N := Nat.mod_add_div _ _
  generalize 10 ^ O.length = P at *
  generalize N % 1000000000 = r at *
  generalize N / 1000000000 = q at *
  have : le O' = le O + r * P := by omega
  rw [this, ← h3]; grind
/-- A limb's step of a number of one word. -/
theorem word_step (L : List Nat) (x V : Nat) (h : nv L + x * 1073741824 ^ L.length = V) : nv (L ++ [x % 1073741824]) + x / 1073741824 * 1073741824 ^ (L ++ [x % 1073741824]).length = V := by
  rw [nv_snoc, List.length_append, List.length_singleton, Nat.pow_succ, ← h]
  have h2 : x % 1073741824 + 1073741824 * (x / 1073741824) = x := Nat.mod_add_div _ _
  generalize x % 1073741824 = r at *
  generalize x / 1073741824 = q at *
  generalize 1073741824 ^ L.length = P at *
  rw [← h2]; grind
end Go.Proofs.YtbkdaoicnobllabDoor

/- Plain mathematics: the bit of the sign. -/
namespace Go.Proofs.YtbkdaoicnobllabDoor
open Go.RowKit

theorem and_top (i y : Nat) (h : y < 2 ^ i) : y &&& 2 ^ i = 0 := by
  apply Nat.eq_of_testBit_eq
  intro j
  rw [Nat.testBit_and, Nat.testBit_two_pow, Nat.zero_testBit]
  by_cases hj : i = j
  · subst hj; rw [Nat.testBit_lt_two_pow h]; rfl
  · simp [hj]
theorem and_top2 (i y : Nat) (h : y < 2 ^ i) : (2 ^ i + y) &&& 2 ^ i = 2 ^ i := by
  apply Nat.eq_of_testBit_eq
  intro j
  rw [Nat.testBit_and, Nat.testBit_two_pow]
  by_cases hj : i = j
  · subst hj; rw [Nat.testBit_two_pow_add_eq, Nat.testBit_lt_two_pow h]; rfl
  · simp [hj]
theorem xor_top (i y : Nat) (h : y < 2 ^ i) : (2 ^ i + y) ^^^ 2 ^ i = y := by
  apply Nat.eq_of_testBit_eq
  intro j
  rw [Nat.testBit_xor, Nat.testBit_two_pow]
  rcases Nat.lt_trichotomy j i with hj | hj | hj
  · rw [Nat.testBit_two_pow_add_gt hj, show decide (i = j) = false from by simp; omega]; simp
  · subst hj; rw [Nat.testBit_two_pow_add_eq, Nat.testBit_lt_two_pow h]; simp
  · have h1 : 2 ^ i + y < 2 ^ j := by
      have : 2 ^ (i + 1) ≤ 2 ^ j := Nat.pow_le_pow_right (by omega) hj
      rw [Nat.pow_succ] at this; omega
    rw [Nat.testBit_lt_two_pow h1, Nat.testBit_lt_two_pow (x := y) (by omega)]; simp; omega
theorem ofInt_nat (n : Nat) (h : n < 18446744073709551616) : (BitVec.ofInt 64 (n : Int)).toNat = n := by
  rw [BitVec.ofInt_natCast, BitVec.toNat_ofNat]; exact Nat.mod_eq_of_lt h
theorem ofInt_neg (x : Int) (h1 : -9223372036854775808 ≤ x) (h2 : x < 0) : (BitVec.ofInt 64 x).toNat = (x + 18446744073709551616).toNat := by
  rw [BitVec.toNat_ofInt]
  have : x % ((2 ^ 64 : Nat) : Int) = x + 18446744073709551616 := by
    rw [show ((2 ^ 64 : Nat) : Int) = 18446744073709551616 from rfl]; omega
  rw [this]
/-- Neither the sign's bit nor what lies above it is set. -/
theorem sign_off (i : Nat) (hi : i ≤ 62) (x : Int) (h0 : 0 ≤ x) (h : x < ((2 ^ i : Nat) : Int)) : bits .and .i64 x ((2 ^ i : Nat) : Int) = 0 := by
  have hp : 2 ^ i ≤ 2 ^ 62 := Nat.pow_le_pow_right (by omega) hi
  obtain ⟨y, rfl⟩ : ∃ y : Nat, x = y := ⟨x.toNat, by omega⟩
  show IntKind.i64.wrap ((BitVec.ofInt 64 (y : Int) &&& BitVec.ofInt 64 ((2 ^ i : Nat) : Int)).toNat : Int) = _
  rw [BitVec.toNat_and, ofInt_nat y (by omega), ofInt_nat _ (by omega), and_top i y (by omega)]; rfl
theorem sign_on (i : Nat) (hi : i ≤ 62) (x : Int) (h0 : ((2 ^ i : Nat) : Int) ≤ x) (h : x < 2 * ((2 ^ i : Nat) : Int)) : bits .and .i64 x ((2 ^ i : Nat) : Int) = ((2 ^ i : Nat) : Int) ∧ bits .xor .i64 x ((2 ^ i : Nat) : Int) = x - ((2 ^ i : Nat) : Int) := by
  have hp : 2 ^ i ≤ 2 ^ 62 := Nat.pow_le_pow_right (by omega) hi
  obtain ⟨y, rfl⟩ : ∃ y : Nat, x = ((2 ^ i + y : Nat) : Int) := ⟨(x - ((2 ^ i : Nat) : Int)).toNat, by omega⟩
  have hy : y < 2 ^ i := by omega
  constructor
  · show IntKind.i64.wrap ((BitVec.ofInt 64 ((2 ^ i + y : Nat) : Int) &&& BitVec.ofInt 64 ((2 ^ i : Nat) : Int)).toNat : Int) = _
    rw [BitVec.toNat_and, ofInt_nat _ (by omega), ofInt_nat _ (by omega), and_top2 i y hy, IntKind.wrap_i64]
    generalize 2 ^ i = P at *
    omega
  · show IntKind.i64.wrap ((BitVec.ofInt 64 ((2 ^ i + y : Nat) : Int) ^^^ BitVec.ofInt 64 ((2 ^ i : Nat) : Int)).toNat : Int) = _
    rw [BitVec.toNat_xor, ofInt_nat _ (by omega), ofInt_nat _ (by omega), xor_top i y hy, IntKind.wrap_i64]
    generalize 2 ^ i = P at *
    omega
/-- The same of 64 bits. -/
theorem min_off (x : Int) (h0 : 0 ≤ x) (h : x ≤ 9223372036854775807) : bits .and .i64 x (-9223372036854775808) = 0 := by
  obtain ⟨y, rfl⟩ : ∃ y : Nat, x = y := ⟨x.toNat, by omega⟩
  show IntKind.i64.wrap ((BitVec.ofInt 64 (y : Int) &&& BitVec.ofInt 64 (-9223372036854775808)).toNat : Int) = _
  rw [BitVec.toNat_and, ofInt_nat y (by omega), show (BitVec.ofInt 64 (-9223372036854775808)).toNat = 2 ^ 63 from by decide, and_top 63 y (by omega)]; rfl
theorem min_on (x : Int) (h0 : -9223372036854775808 ≤ x) (h : x < 0) : bits .and .i64 x (-9223372036854775808) = -9223372036854775808 ∧ bits .xor .i64 x (-9223372036854775808) = x + 9223372036854775808 := by
  obtain ⟨y, hy⟩ : ∃ y : Nat, (y : Int) = x + 9223372036854775808 := ⟨(x + 9223372036854775808).toNat, by omega⟩
  have e1 : (BitVec.ofInt 64 x).toNat = 2 ^ 63 + y := by rw [ofInt_neg x h0 h]; omega
  have e2 : (BitVec.ofInt 64 (-9223372036854775808)).toNat = 2 ^ 63 := by decide
  constructor
  · show IntKind.i64.wrap ((BitVec.ofInt 64 x &&& BitVec.ofInt 64 (-9223372036854775808)).toNat : Int) = _
    rw [BitVec.toNat_and, e1, e2, and_top2 63 y (by omega)]; decide
  · show IntKind.i64.wrap ((BitVec.ofInt 64 x ^^^ BitVec.ofInt 64 (-9223372036854775808)).toNat : Int) = _
    rw [BitVec.toNat_xor, e1, e2, xor_top 63 y (by omega), IntKind.wrap_i64]
    omega
end Go.Proofs.YtbkdaoicnobllabDoor
