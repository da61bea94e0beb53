import Derived.Test.YtioaaigbpfdjmaaDoorDecides
import Derived.Deep.RegionHeld3
set_option linter.unusedSimpArgs false
set_option linter.unusedVariables false
namespace Go.Proofs.YtioaaigbpfdjmaaDoor
open Go Go.Proofs Go.RowKit
def degN (R : Nat → Bool) (N : Nat) : Nat := (List.range N).foldl (fun m p => if R p then max m (digN p) else m) 0
def sensM (b : Nat → Bool) (n k : Nat) : Nat := (List.range k).foldl (fun m p => max m (sensK b p n)) 0
def certM (b : Nat → Bool) (N n k : Nat) : Nat := (List.range k).foldl (fun m p => max m (certK b N n p N)) 0
def degL (l : List Nat) : Nat := l.foldl (fun m p => max m (digN p)) 0
theorem degN_push (R : Nat → Bool) (k : Nat) : degN R (k + 1) = if R k then max (degN R k) (digN k) else degN R k := by
  unfold degN; rw [List.range_succ, List.foldl_append]; rfl
theorem sensM_push (b : Nat → Bool) (n k : Nat) : sensM b n (k + 1) = max (sensM b n k) (sensK b k n) := by
  unfold sensM; rw [List.range_succ, List.foldl_append]; rfl
theorem certM_push (b : Nat → Bool) (N n k : Nat) : certM b N n (k + 1) = max (certM b N n k) (certK b N n k N) := by
  unfold certM; rw [List.range_succ, List.foldl_append]; rfl
theorem degL_push (l : List Nat) (x : Nat) : degL (l ++ [x]) = max (degL l) (digN x) := by simp [degL]
theorem degL_le : ∀ (l : List Nat), degL l ≤ 5 := by
  have h : ∀ (l : List Nat) (m : Nat), m ≤ 5 → l.foldl (fun m p => max m (digN p)) m ≤ 5 := by
    intro l
    induction l with
    | nil => intro m h; exact h
    | cons x l ih => intro m h; exact ih _ (by show max m (digN x) ≤ 5; have := dig_le x; omega)
  exact fun l => h l 0 (by omega)
theorem degN_le (R : Nat → Bool) : ∀ k, degN R k ≤ 5
  | 0 => by simp [degN]
  | k + 1 => by
    rw [degN_push]
    have h1 := degN_le R k
    have h2 := dig_le k
    split <;> omega
theorem sensM_le (b : Nat → Bool) (n : Nat) : ∀ k, sensM b n k ≤ n
  | 0 => by simp [sensM]
  | k + 1 => by
    rw [sensM_push]
    have h1 := sensM_le b n k
    have h2 := sensK_le b k n
    omega
theorem certM_le (b : Nat → Bool) (N n : Nat) : ∀ k, certM b N n k ≤ n
  | 0 => by simp [certM]
  | k + 1 => by
    rw [certM_push]
    have h1 := certM_le b N n k
    have h2 := certK_le b N n k N
    omega
theorem filter_short {c : Nat → Bool} {N : Nat} (h : ∀ q, N ≤ q → c q = false) : ∀ K, N ≤ K → (List.range K).filter c = (List.range N).filter c
  | 0, hK => by rw [show N = 0 by omega]
  | K + 1, hK => by
    by_cases e : N = K + 1
    · rw [e]
    · rw [List.range_succ, List.filter_append, filter_short h K (by omega)]
      simp [h K (by omega)]
theorem deg_list {S N : Nat} {R : Nat → Bool} (h : ∀ q, S.testBit q = (decide (q < N) && R q)) (hN : N ≤ 32) : degL (bitsOf S) = degN R N := by
  unfold degL bitsOf degN
  rw [filter_short (N := N) (fun q hq => by rw [h, decide_eq_false (by omega)]; rfl) 32 hN, List.foldl_filter]
  have : ∀ (l : List Nat) (m : Nat), (∀ q ∈ l, q < N) → l.foldl (fun x y => if S.testBit y = true then max x (digN y) else x) m = l.foldl (fun m p => if R p = true then max m (digN p) else m) m := by
    intro l
    induction l with
    | nil => intro m _; rfl
    | cons x l ih =>
      intro m hl
      have hx := hl x (by simp)
      simp only [List.foldl_cons]
      rw [h x, decide_eq_true hx, Bool.true_and]
      exact ih _ fun q hq => hl q (by simp [hq])
  exact this _ 0 fun q hq => by rwa [List.mem_range] at hq
def onesK (b : Nat → Bool) (N : Nat) : Nat := ((List.range N).filter b).length
theorem onesK_push (b : Nat → Bool) (k : Nat) : onesK b (k + 1) = onesK b k + (b k).toNat := by
  unfold onesK
  rw [List.range_succ, List.filter_append, List.length_append]
  cases h : b k <;> simp [h]
theorem onesK_le (b : Nat → Bool) (N : Nat) : onesK b N ≤ N := Nat.le_trans (List.length_filter_le _ _) (by simp)
theorem ones_list {O N : Nat} {b : Nat → Bool} (hb : O.testBit = b) (h : ∀ q, N ≤ q → b q = false) (hN : N ≤ 32) : (bitsOf O).length = onesK b N := by
  unfold bitsOf onesK
  rw [hb, filter_short h 32 hN]
/-- The cells of the measures. -/
def meas (d s c o : Nat) : Nat → Int
  | 0 => d
  | 1 => s
  | 2 => c
  | _ => o
def TabAt (w : World) (B n O Z : Nat) : Prop := w.cell? ⟨B, 0, none⟩ = some (.int .i64 n) ∧ w.cell? ⟨B, 1, none⟩ = some (.int .u32 O) ∧ w.cell? ⟨B, 2, none⟩ = some (.int .u32 Z)
theorem tabat_below {w w' : World} {B n O Z : Nat} (h : TabAt w B n O Z) (b : Below w.heap.size w w') : TabAt w' B n O Z := ⟨cell_below h.1 b, cell_below h.2.1 b, cell_below h.2.2 b⟩
theorem cell_set {w : World} {B o p G : Nat} {v u : Value} (h : w.cell? ⟨B, o, none⟩ = some v) (hne : B ≠ G) : (w.setCell ⟨G, p, none⟩ u).cell? ⟨B, o, none⟩ = some v :=
  (World.cell?_of_block (a := ⟨B, o, none⟩) (Below.heap_setCell w ⟨G, p, none⟩ u B hne)).trans h
theorem tabat_set {w : World} {B n O Z G p : Nat} {u : Value} (h : TabAt w B n O Z) (hne : B ≠ G) : TabAt (w.setCell ⟨G, p, none⟩ u) B n O Z := ⟨cell_set h.1 hne, cell_set h.2.1 hne, cell_set h.2.2 hne⟩
theorem frozen_below {w w' : World} {g k : Nat} {v : Value} (h : w.cell? ⟨g, k, none⟩ = some v) (hf : w.frozen? ⟨g, k, none⟩ = false) (b : Below w.heap.size w w') : w'.frozen? ⟨g, k, none⟩ = false := by
  have h1 : g < w.heap.size := by
    rcases Nat.lt_or_ge g w.heap.size with h' | h'
    · exact h'
    · simp [World.cell?, Array.getElem?_eq_none h'] at h
  rw [b.frozen (p := ⟨g, k, none⟩) h1]; exact hf
/-- A list in memory, in a block behind G. -/
def LAt (w : World) (A : Option Addr) (l : List Nat) (G : Nat) : Prop := ∀ k, k < l.length → ∃ g, A = some ⟨g, 0, none⟩ ∧ G < g ∧ w.cell? ⟨g, k, none⟩ = some (.int .i64 (l.getD k 0 : Nat))
theorem lat_below {w w' : World} {A : Option Addr} {l : List Nat} {G : Nat} (h : LAt w A l G) (b : Below w.heap.size w w') : LAt w' A l G := fun k hk => by
  obtain ⟨g, h1, h2, h3⟩ := h k hk
  exact ⟨g, h1, h2, cell_below h3 b⟩
theorem lat_set {w : World} {A : Option Addr} {l : List Nat} {G p : Nat} {u : Value} (h : LAt w A l G) : LAt (w.setCell ⟨G, p, none⟩ u) A l G := fun k hk => by
  obtain ⟨g, h1, h2, h3⟩ := h k hk
  exact ⟨g, h1, h2, cell_set h3 (by omega)⟩
theorem own_lat {w : World} {B G : Nat} {v : Value} {l : List Nat} (h : w.ownsRow B 3 1 v l.length (l.map vi)) (hG : G < B) : ∃ A cap, v = .slice A l.length cap ∧ LAt w A l G := by
  obtain ⟨A, cap, hv, hc⟩ := own_cell h
  refine ⟨A, cap, hv, fun k hk => ?_⟩
  obtain ⟨g, hA, hg⟩ := hc k hk
  refine ⟨g, hA, ?_, hg⟩
  have := (h.lt g (by rw [hv, hA]; rfl)).1
  omega
theorem carry4 {w w1 : World} {x y z u : Int} (b : Below (w.alloc (.cells #[.int .i64 x, .int .i64 y, .int .i64 z, .int .i64 u] 47)).heap.size (w.alloc (.cells #[.int .i64 x, .int .i64 y, .int .i64 z, .int .i64 u] 47)) w1) :
    RowAt w1 w.heap.size 4 (fun j => [x, y, z, u].getD j 0) ∧ w.heap.size < w1.heap.size ∧ Below w.heap.size w w1 := by
  refine ⟨fun j hj => ?_, ?_, below_trans ((Below.refl _ _).alloc (Nat.le_refl _) _) b (by simp)⟩
  · have : j = 0 ∨ j = 1 ∨ j = 2 ∨ j = 3 := by omega
    rcases this with h | h | h | h <;> subst h
    · exact ⟨by rw [b.cell (p := ⟨w.heap.size, 0, none⟩) (by simp)]; go_simp, by rw [b.frozen (p := ⟨w.heap.size, 0, none⟩) (by simp)]; go_simp⟩
    · exact ⟨by rw [b.cell (p := ⟨w.heap.size, 1, none⟩) (by simp)]; go_simp, by rw [b.frozen (p := ⟨w.heap.size, 1, none⟩) (by simp)]; go_simp⟩
    · exact ⟨by rw [b.cell (p := ⟨w.heap.size, 2, none⟩) (by simp)]; go_simp, by rw [b.frozen (p := ⟨w.heap.size, 2, none⟩) (by simp)]; go_simp⟩
    · exact ⟨by rw [b.cell (p := ⟨w.heap.size, 3, none⟩) (by simp)]; go_simp, by rw [b.frozen (p := ⟨w.heap.size, 3, none⟩) (by simp)]; go_simp⟩
  · have := b.size
    simp at this
    omega
theorem row_cases {w : World} {G : Nat} {x y z u : Int} (h : RowAt w G 4 (fun j => [x, y, z, u].getD j 0)) :
    w.cell? ⟨G, 0, none⟩ = some (.int .i64 x) ∧ w.cell? ⟨G, 1, none⟩ = some (.int .i64 y) ∧ w.cell? ⟨G, 2, none⟩ = some (.int .i64 z) ∧ w.cell? ⟨G, 3, none⟩ = some (.int .i64 u) ∧
    w.frozen? ⟨G, 0, none⟩ = false ∧ w.frozen? ⟨G, 1, none⟩ = false ∧ w.frozen? ⟨G, 2, none⟩ = false ∧ w.frozen? ⟨G, 3, none⟩ = false :=
  ⟨(h 0 (by omega)).1, (h 1 (by omega)).1, (h 2 (by omega)).1, (h 3 (by omega)).1, (h 0 (by omega)).2, (h 1 (by omega)).2, (h 2 (by omega)).2, (h 3 (by omega)).2⟩
theorem four {j : Nat} (h : j < 4) : j = 0 ∨ j = 1 ∨ j = 2 ∨ j = 3 := by omega
theorem row0_set {w : World} {G : Nat} {a b c d x : Int} (h : RowAt w G 4 (fun j => [a, b, c, d].getD j 0)) : RowAt (w.setCell ⟨G, 0, none⟩ (.int .i64 x)) G 4 (fun j => [x, b, c, d].getD j 0) :=
  row_set h (by omega) rfl fun j hj hne => by rcases four hj with h | h | h | h <;> subst h <;> first | rfl | exact absurd rfl hne
theorem row1_set {w : World} {G : Nat} {a b c d x : Int} (h : RowAt w G 4 (fun j => [a, b, c, d].getD j 0)) : RowAt (w.setCell ⟨G, 1, none⟩ (.int .i64 x)) G 4 (fun j => [a, x, c, d].getD j 0) :=
  row_set h (by omega) rfl fun j hj hne => by rcases four hj with h | h | h | h <;> subst h <;> first | rfl | exact absurd rfl hne
theorem row2_set {w : World} {G : Nat} {a b c d x : Int} (h : RowAt w G 4 (fun j => [a, b, c, d].getD j 0)) : RowAt (w.setCell ⟨G, 2, none⟩ (.int .i64 x)) G 4 (fun j => [a, b, x, d].getD j 0) :=
  row_set h (by omega) rfl fun j hj hne => by rcases four hj with h | h | h | h <;> subst h <;> first | rfl | exact absurd rfl hne
theorem row3_set {w : World} {G : Nat} {a b c d x : Int} (h : RowAt w G 4 (fun j => [a, b, c, d].getD j 0)) : RowAt (w.setCell ⟨G, 3, none⟩ (.int .i64 x)) G 4 (fun j => [a, b, c, x].getD j 0) :=
  row_set h (by omega) rfl fun j hj hne => by rcases four hj with h | h | h | h <;> subst h <;> first | rfl | exact absurd rfl hne
end Go.Proofs.YtioaaigbpfdjmaaDoor
