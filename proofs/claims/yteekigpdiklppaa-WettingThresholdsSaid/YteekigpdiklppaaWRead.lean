import Derived.Test.YteekigpdiklppaaWHas
import Derived.Test.YteekigpdiklppaaWSoak
set_option linter.unusedSimpArgs false
set_option linter.unusedVariables false
namespace Go.Proofs.Yteekigpdiklppaa
open Go Go.Proofs Go.RowKit Go.Seq
attribute [local go_sem] Oper.semAt_some
def vz (n : Int) : Value := .int .i64 n
abbrev Pts := List (Int × Int)
theorem cell_below {w w' : World} {g k : Nat} {v : Value} (h : w.cell? ⟨g, k, none⟩ = some v) (b : Below w.heap.size w w') : w'.cell? ⟨g, k, none⟩ = some v := by
  have h1 := cell_lt h
  rw [b.cell (p := ⟨g, k, none⟩) h1]; exact h
/-- A list of pairs in memory, from the start of a block on. -/
def PairsOf (w : World) (v : Value) (ps : Pts) : Prop :=
  ∃ A cap, v = .slice A ps.length cap ∧ ∀ k, k < ps.length → ∃ g, A = some ⟨g, 0, none⟩ ∧ w.cell? ⟨g, k * 2, none⟩ = some (.int .i64 (ps.getD k (0, 0)).1) ∧ w.cell? ⟨g, k * 2 + 1, none⟩ = some (.int .i64 (ps.getD k (0, 0)).2)
theorem pairsOf_below {w w' : World} {v : Value} {l : Pts} (h : PairsOf w v l) (b : Below w.heap.size w w') : PairsOf w' v l := by
  obtain ⟨A, cap, hv, hc⟩ := h
  refine ⟨A, cap, hv, fun k hk => ?_⟩
  obtain ⟨g, hA, h1, h2⟩ := hc k hk
  exact ⟨g, hA, cell_below h1 b, cell_below h2 b⟩
theorem getp {ps : Pts} {k : Nat} (h : k < ps.length) : ps.getD k (0, 0) ∈ ps := by
  rw [List.getD_eq_getElem?_getD, List.getElem?_eq_getElem h]; exact List.getElem_mem _
theorem takep {ps : Pts} {k : Nat} (h : k < ps.length) : ps.take (k + 1) = ps.take k ++ [ps.getD k (0, 0)] := by
  rw [List.take_add_one, List.getElem?_eq_getElem h, List.getD_eq_getElem?_getD, List.getElem?_eq_getElem h]; rfl
/-- Who is near whom. -/
def adjOf (ps : Pts) (i j : Nat) : Bool := ps.any fun p => (p.1 == (i : Int) && p.2 == (j : Int)) || (p.1 == (j : Int) && p.2 == (i : Int))
/-- An edge that may follow those before it. -/
structure EdgeOk (n : Int) (pre : Pts) (p : Int × Int) : Prop where
  a0 : 0 ≤ p.1
  an : p.1 < n
  b0 : 0 ≤ p.2
  bn : p.2 < n
  ab : p.1 < p.2
  new : adjOf pre p.1.toNat p.2.toNat = false
structure GrOk (n : Int) (ps : Pts) : Prop where
  n1 : 1 ≤ n
  n12 : n ≤ 12
  ed : ∀ k, k < ps.length → EdgeOk n (ps.take k) (ps.getD k (0, 0))
/-- A graph in memory, all of its block. -/
structure GraphH (W : World) (b n : Nat) (adj : Nat → Nat → Bool) : Prop where
  blk : ∃ arr : Array Value, W.heap[b]? = some (.cells arr 118 (0, 0)) ∧ arr.size = 145 ∧ arr[0]? = some (.int .i64 n) ∧ ∀ i j, i < 12 → j < 12 → arr[1 + i * 12 + j]? = some (.bool (adj i j))
theorem GraphH.at {W : World} {b n : Nat} {adj : Nat → Nat → Bool} (h : GraphH W b n adj) : GraphAt W b n adj := by
  obtain ⟨arr, h1, h2, h3, h4⟩ := h.blk
  exact ⟨by simp [World.cell?, h1, h3], fun i j hi hj => by simp [World.cell?, h1, h4 i j hi hj]⟩
theorem GraphH.free {W : World} {b n : Nat} {adj : Nat → Nat → Bool} (h : GraphH W b n adj) (k : Nat) : W.frozen? ⟨b, k, none⟩ = false := by
  obtain ⟨arr, h1, h2, h3, h4⟩ := h.blk
  simp [World.frozen?, h1]
theorem GraphH.below {W W' : World} {B b n : Nat} {adj : Nat → Nat → Bool} (h : GraphH W b n adj) (hb : Below B W W') (hl : b < B) : GraphH W' b n adj := by
  obtain ⟨arr, h1, h2⟩ := h.blk
  exact ⟨arr, (hb.block b hl).trans h1, h2⟩
theorem GraphH.lt {W : World} {b n : Nat} {adj : Nat → Nat → Bool} (h : GraphH W b n adj) : b < W.heap.size := by
  obtain ⟨arr, h1, h2⟩ := h.blk
  exact (Array.getElem?_eq_some_iff.1 h1).1
theorem GraphH.set {W : World} {b n : Nat} {adj adj' : Nat → Nat → Bool} (h : GraphH W b n adj) {a c : Nat} {v : Bool} (ha : a < 12) (hc : c < 12) (hv : adj' a c = v) (ho : ∀ i j, i < 12 → j < 12 → ¬ (i = a ∧ j = c) → adj' i j = adj i j) :
    GraphH (W.setCell ⟨b, 1 + a * 12 + c, none⟩ (.bool v)) b n adj' := by
  obtain ⟨arr, h1, h2, h3, h4⟩ := h.blk
  refine ⟨_, heap_set h1 _, by simp [h2], ?_, fun i j hi hj => ?_⟩
  · rw [Array.getElem?_setIfInBounds_ne (by omega)]; exact h3
  · by_cases e : i = a ∧ j = c
    · obtain ⟨rfl, rfl⟩ := e
      rw [Array.getElem?_setIfInBounds_self_of_lt (by omega), hv]
    · rw [Array.getElem?_setIfInBounds_ne (by omega), h4 i j hi hj, ho i j hi hj e]
theorem adjOf_push (ps : Pts) (a c : Nat) (i j : Nat) : adjOf (ps ++ [((a : Int), (c : Int))]) i j = (adjOf ps i j || ((i == a && j == c) || (i == c && j == a))) := by
  unfold adjOf
  rw [List.any_append]
  have e : ∀ x y : Nat, ((x : Int) == (y : Int)) = (y == x) := fun x y => by rw [Bool.eq_iff_iff, beq_iff_eq, beq_iff_eq]; omega
  simp only [List.any_cons, List.any_nil, Bool.or_false, e]
  rw [Bool.and_comm (j == a)]
theorem adjOf_symm (ps : Pts) (i j : Nat) : adjOf ps i j = adjOf ps j i := by
  unfold adjOf
  congr 1
  funext p
  rw [Bool.or_comm]
def gzero (n : Int) : Array Value := #[.int .i64 n] ++ Array.replicate 144 (.bool false)
theorem gz_eq (n : Int) : Try.zeroCells118.setIfInBounds 0 (.int .i64 n) = gzero n := by kernel_rfl
theorem below_dn (W : World) (q : Nat) : Below W.heap.size W (W.drewN q) := ⟨rfl, rfl, rfl, Nat.le_refl _, fun _ _ => rfl⟩
def AX (A : Nat → Nat → Bool) (a c : Nat) (x y : Bool) (i j : Nat) : Bool := A i j || ((x && (i == a && j == c)) || (y && (i == c && j == a)))
def Cq (W : World) (_ : Nat → Bool) (w : World) : Prop := ∃ q, w = W.drewN q
theorem Cq.keep {W : World} {k : Nat} : ∀ s w, Cq W s w → Cq W (Many.upd s k) w := fun _ _ h => h
theorem rd {P : Program} {W : World} {k : Nat} {o : Oper} {a : Act} {v : Value} (h : ∀ q, (execOp a.eval o).run P (W.drewN q) = .ok (.value v) (W.drewN q)) : Many.Tr P (Cq W) k o a v :=
  Many.tr_read (fun w => ∃ q, w = W.drewN q) (fun _ _ h => h) (fun _ _ h => h) (fun w ⟨q, hq⟩ => by rw [hq]; exact h q)
set_option maxRecDepth 100000 in
theorem gzero_at (n : Int) : ∀ i j, i < 12 → j < 12 → (gzero n)[1 + i * 12 + j]? = some (.bool false) := by
  intro i j hi hj
  have h : ∀ k, k < 144 → (gzero n)[1 + k]? = some (.bool false) := by
    intro k hk
    unfold gzero
    rw [Array.getElem?_append_right (by simp), Array.getElem?_replicate]
    simp; omega
  have := h (i * 12 + j) (by omega)
  rw [← Nat.add_assoc] at this
  exact this
theorem gzero_size (n : Int) : (gzero n).size = 145 := by unfold gzero; simp
theorem graph_new (w : World) (n : Nat) : GraphH (w.alloc (.cells (gzero n) 118)) w.heap.size n (adjOf []) :=
  ⟨_, World.alloc_heap_new w _, gzero_size n, by simp [gzero], fun i j hi hj => gzero_at n i j hi hj⟩
theorem readGraph_n {n : Int} {v : Value} {w : World} (h : n < 1 ∨ 12 < n) : Calls Try.prog 69 #[.int .i64 n, v] w fun e w' => e = .returned (.tuple #[.pointer none, .bool false]) ∧ Below w.heap.size w w' := by
  go_enter Try.func69, Try.ntmps69
  rcases h with h | h
  · go_wp2
    refine bodyPost_ret (v := .tuple #[.pointer none, .bool false]) (by simp [results, Try.results69, go_sem]) rfl ?_
    exact ⟨rfl, Below.refl _ _⟩
  · have h1 : ¬ n < 1 := by omega
    go_wp2
    refine bodyPost_ret (v := .tuple #[.pointer none, .bool false]) (by simp [results, Try.results69, go_sem]) rfl ?_
    exact ⟨rfl, Below.refl _ _⟩
set_option maxHeartbeats 1000000 in
set_option maxRecDepth 100000 in
theorem readGraph_yes {n : Nat} {v : Value} {ps : Pts} {w : World} (hv : PairsOf w v ps) (hok : GrOk n ps) (hl : ps.length ≤ 200) :
    Calls Try.prog 69 #[.int .i64 n, v] w fun e w' => e = .returned (.tuple #[.pointer (some ⟨w.heap.size, 0, none⟩), .bool true]) ∧ GraphH w' w.heap.size n (adjOf ps) ∧ Below w.heap.size w w' := by
  have hmx : Try.prog.follows .mixedOrders = true := by kernel_rfl
  obtain ⟨A, cap, rfl, hc⟩ := hv
  have hck := Keep.mk hc
  have n1 := hok.n1
  have n12 := hok.n12
  have h5k := Keep.mk hok.ed
  obtain ⟨m, hm⟩ : ∃ m, Keep (ps.length = m) := ⟨_, ⟨rfl⟩⟩
  rw [hm.out] at hl hck h5k ⊢
  have g1 : ¬ (n : Int) < 1 := by omega
  have g2 : ¬ (n : Int) > 12 := by omega
  obtain ⟨wa, hwa⟩ : ∃ wa, w.alloc (.cells (Try.zeroCells118.setIfInBounds 0 (.int .i64 n)) 118) = wa := ⟨_, rfl⟩
  have ba : Below w.heap.size w wa := by rw [← hwa]; exact (Below.refl _ _).alloc (Nat.le_refl _) _
  have ga : GraphH wa w.heap.size n (adjOf []) := by rw [← hwa, gz_eq]; exact graph_new w n
  have hI : Keep (GraphH wa w.heap.size n (adjOf (ps.take 0)) ∧ Below w.heap.size w wa) := ⟨by simpa using ga, ba⟩
  clear hc hok ga ba
  go_enter Try.func69, Try.ntmps69
  go_wp2
  try rw [hwa]
  clear hwa
  go_loopw [22] (fun i wr => ∃ k : Nat, k ≤ m ∧ i = .int .i64 k ∧ Keep (GraphH wr w.heap.size n (adjOf (ps.take k)) ∧ Below w.heap.size w wr)) (fun i _ => m - (intOf i).toNat)
  case atStart => exact ⟨0, by omega, rfl, hI⟩
  case round =>
    obtain ⟨k, hk, rfl, hI⟩ := hrel
    have hw1 : IntKind.i64.wrap ((k : Int) + 1) = (k : Int) + 1 := IntWalk.i64_in _ (by omega)
    by_cases hlt : k < m
    · have hlt' : (k : Int) < (m : Int) := by omega
      obtain ⟨g, rfl, c0, c1⟩ := hck.out k hlt
      have hbz := hI.out.2.size
      have c0 := cell_below c0 hI.out.2
      have c1 := cell_below c1 hI.out.2
      have hed := h5k.out k hlt
      have hpush := takep (ps := ps) (k := k) (by rw [hm.out]; exact hlt)
      generalize ps.getD k (0, 0) = p at c0 c1 hed hpush
      obtain ⟨x, y⟩ := p
      obtain ⟨e1, e2, e3, e4, e5, e6⟩ := hed
      simp only at c0 c1 e1 e2 e3 e4 e5 e6
      obtain ⟨a, ha⟩ : ∃ a : Nat, (a : Int) = x := ⟨x.toNat, by omega⟩
      obtain ⟨c, hc⟩ : ∃ c : Nat, (c : Int) = y := ⟨y.toNat, by omega⟩
      subst ha hc
      simp only [Int.toNat_natCast] at e6
      have han : a < n := by omega
      have hcn : c < n := by omega
      have hac : ¬ ((a : Int) ≥ (c : Int)) := by omega
      have ha12 : (a : Int) < 12 := by omega
      have hc12 : (c : Int) < 12 := by omega
      have ha0 : ¬ (a : Int) < 0 := by omega
      have hc0 : ¬ (c : Int) < 0 := by omega
      obtain ⟨W1, hW1⟩ : ∃ W1, wr.alloc (.cells #[.int .i64 a, .int .i64 c] 63) = W1 := ⟨_, rfl⟩
      have b1 : Below wr.heap.size wr W1 := by rw [← hW1]; exact (Below.refl _ _).alloc (Nat.le_refl _) _
      have h8 : W1.heap[wr.heap.size]? = some (.cells #[.int .i64 a, .int .i64 c] 63 (0, 0)) := by rw [← hW1]; exact World.alloc_heap_new wr _
      have hI1 : Keep (GraphH W1 w.heap.size n (adjOf (ps.take k)) ∧ Below w.heap.size w W1) := ⟨hI.out.1.below b1 hI.out.1.lt, hI.out.2.trans (b1.mono hI.out.2.size)⟩
      have r0 : W1.cell? ⟨wr.heap.size, 0, none⟩ = some (.int .i64 a) := by simp [World.cell?, h8]
      have r1 : W1.cell? ⟨wr.heap.size, 1, none⟩ = some (.int .i64 c) := by simp [World.cell?, h8]
      clear hI b1 h8
      go_wp2
      try rw [hW1]
      clear hW1
      refine (wpIn_wide (n := 0)).1 ?_
      refine Many.region_many (Cq W1) hmx (by kernel_rfl) (fun s s' W' h hc => hc) (fun s hs => ⟨1, rfl⟩) ?_
      refine Many.lex_want (by rfl) (rd (v := .pointer (some ⟨wr.heap.size, 0, none⟩)) (fun q => by (go_simp; try rfl))) ?_
      simp only [Act.put, List.setIfInBounds_toArray, List.set_cons_succ, List.set_cons_zero, Nat.reduceAdd]
      refine Many.lex_want (by rfl) (rd (v := .int .i64 a) (fun q => by (go_simp; try rfl))) ?_
      simp only [Act.put, List.setIfInBounds_toArray, List.set_cons_succ, List.set_cons_zero, Nat.reduceAdd]
      refine Many.lex_want (by rfl) (rd (v := .pointer (some ⟨wr.heap.size, 1, none⟩)) (fun q => by (go_simp; try rfl))) ?_
      simp only [Act.put, List.setIfInBounds_toArray, List.set_cons_succ, List.set_cons_zero, Nat.reduceAdd]
      refine Many.lex_want (by rfl) (rd (v := .int .i64 c) (fun q => by (go_simp; try rfl))) ?_
      simp only [Act.put, List.setIfInBounds_toArray, List.set_cons_succ, List.set_cons_zero, Nat.reduceAdd]
      refine Many.lex_want (by rfl) (rd (v := .int .i64 a) (fun q => by (go_simp; try rfl))) ?_
      simp only [Act.put, List.setIfInBounds_toArray, List.set_cons_succ, List.set_cons_zero, Nat.reduceAdd]
      refine Many.lex_want (by rfl) (rd (v := .int .i64 c) (fun q => by (go_simp; try rfl))) ?_
      simp only [Act.put, List.setIfInBounds_toArray, List.set_cons_succ, List.set_cons_zero, Nat.reduceAdd]
      refine Many.lex_nil fun s9 W2 hs9 hS9 => ?_
      have hI2 : Keep (GraphH W2 w.heap.size n (adjOf (ps.take k)) ∧ Below w.heap.size w W2) := by
        obtain ⟨q, rfl⟩ := hS9
        have hb := below_dn W1 q
        exact ⟨hI1.out.1.below hb hI1.out.1.lt, hI1.out.2.trans (hb.mono hI1.out.2.size)⟩
      clear hI1 hS9 hs9 r0 r1 c0 c1
      have qa := has_any hI2.out.1.at (a : Int)
      have qc := has_any hI2.out.1.at (c : Int)
      rw [decide_eq_true (by omega)] at qa qc
      have hadj := (hI2.out.1.at).at_ a c (by omega) (by omega)
      rw [e6] at hadj
      go_wp2_with (first
        | (go_at_call 80; (with_reducible refine qa.mono ?_); rintro e w5 ⟨rfl, he5⟩; rw [he5]; clear he5 w5)
        | (go_at_call 80; (with_reducible refine qc.mono ?_); rintro e w5 ⟨rfl, he5⟩; rw [he5]; clear he5 w5))
      clear hadj qa qc
      obtain ⟨A0, hA0⟩ : ∃ A0, adjOf (ps.take k) = A0 := ⟨_, rfl⟩
      have hA2e : ∀ i j, adjOf (ps.take (k + 1)) i j = AX A0 a c true true i j := fun i j => by
        rw [hpush, ← hA0, adjOf_push]
        simp only [AX, Bool.true_and, Bool.or_assoc]
      rw [hA0] at hI2
      obtain ⟨CX, hCXd⟩ : ∃ CX : (Nat → Bool) → World → Prop, CX = fun s0 W => GraphH W w.heap.size n (AX A0 a c (s0 10) (s0 15)) ∧ Below w.heap.size w W := ⟨_, rfl⟩
      have hCk : ∀ i, i ≠ 10 → i ≠ 15 → ∀ s0 W, CX s0 W → CX (Many.upd s0 i) W := fun i h1 h2 s0 W h => by
        rw [hCXd] at h ⊢
        simp only at h ⊢
        rw [show Many.upd s0 i 10 = s0 10 by simp [Many.upd, h1], show Many.upd s0 i 15 = s0 15 by simp [Many.upd, h2]]; exact h
      have hs10 : ∀ s0 W, s0 10 = false → CX s0 W → ((∃ u, W.cell? ⟨w.heap.size, 1 + a * 12 + c, none⟩ = some (.bool u)) ∧ W.frozen? ⟨w.heap.size, 1 + a * 12 + c, none⟩ = false) ∧ CX (Many.upd s0 10) (W.setCell ⟨w.heap.size, 1 + a * 12 + c, none⟩ (.bool true)) := fun s0 W hs h => by
        rw [hCXd] at h ⊢
        simp only at h ⊢
        rw [show Many.upd s0 10 10 = true by simp [Many.upd], show Many.upd s0 10 15 = s0 15 by simp [Many.upd]]
        rw [hs] at h
        refine ⟨⟨⟨_, h.1.at.at_ a c (by omega) (by omega)⟩, h.1.free _⟩, h.1.set (by omega) (by omega) (by simp [AX]) (fun i j _ _ hij => ?_), h.2.setCell (p := ⟨w.heap.size, _, none⟩) (Nat.le_refl _) _⟩
        have hx : (i == a && j == c) = false := by rw [Bool.and_eq_false_iff, beq_eq_false_iff_ne, beq_eq_false_iff_ne]; omega
        simp [AX, hx]
      have hs15 : ∀ s0 W, s0 15 = false → CX s0 W → ((∃ u, W.cell? ⟨w.heap.size, 1 + c * 12 + a, none⟩ = some (.bool u)) ∧ W.frozen? ⟨w.heap.size, 1 + c * 12 + a, none⟩ = false) ∧ CX (Many.upd s0 15) (W.setCell ⟨w.heap.size, 1 + c * 12 + a, none⟩ (.bool true)) := fun s0 W hs h => by
        rw [hCXd] at h ⊢
        simp only at h ⊢
        rw [show Many.upd s0 15 10 = s0 10 by simp [Many.upd], show Many.upd s0 15 15 = true by simp [Many.upd]]
        rw [hs] at h
        refine ⟨⟨⟨_, h.1.at.at_ c a (by omega) (by omega)⟩, h.1.free _⟩, h.1.set (by omega) (by omega) (by simp [AX]) (fun i j _ _ hij => ?_), h.2.setCell (p := ⟨w.heap.size, _, none⟩) (Nat.le_refl _) _⟩
        have hx : (i == c && j == a) = false := by rw [Bool.and_eq_false_iff, beq_eq_false_iff_ne, beq_eq_false_iff_ne]; omega
        simp [AX, hx]
      have hC0 : ∀ s0 : Nat → Bool, s0 10 = false → s0 15 = false → CX s0 W2.drew := fun s0 h1 h2 => by
        rw [hCXd]
        simp only [h1, h2]
        have hb := (Below.refl W2.heap.size W2).drew
        rw [show AX A0 a c false false = A0 by funext i j; simp [AX]]
        exact ⟨hI2.out.1.below hb hI2.out.1.lt, hI2.out.2.trans (hb.mono hI2.out.2.size)⟩
      have hCe : ∀ s0 s1 W, (∀ j, s0 j = s1 j) → CX s0 W → CX s1 W := fun s0 s1 W h hc => by
        rw [hCXd] at hc ⊢; simp only at hc ⊢; rw [← h, ← h]; exact hc
      have hfin : ∀ s0 W, s0 10 = true → s0 15 = true → CX s0 W → Keep (GraphH W w.heap.size n (adjOf (ps.take (k + 1))) ∧ Below w.heap.size w W) := fun s0 W h1 h2 h => by
        rw [hCXd] at h; simp only [h1, h2] at h
        exact ⟨by rw [show adjOf (ps.take (k + 1)) = AX A0 a c true true from funext fun i => funext fun j => hA2e i j]; exact h.1, h.2⟩
      clear hCXd hA2e hI2 hA0
      refine (wpIn_wide (n := 0)).1 ?_
      refine Many.region_many CX hmx (by kernel_rfl) hCe (fun s0 hs => hC0 s0 (hs 10 (by decide)) (hs 15 (by decide))) ?_
      refine Many.lex_want (by rfl) (Many.tr_read (v := .pointer (some ⟨w.heap.size, 0, none⟩)) (fun _ => True) (fun _ _ _ => trivial) (hCk 0 (by decide) (by decide)) (fun W h => by clear h; go_simp; (try rfl); (try (intro hneg; omega)))) ?_
      simp only [Act.put, List.setIfInBounds_toArray, List.set_cons_succ, List.set_cons_zero, Nat.reduceAdd]
      refine Many.lex_want (by rfl) (Many.tr_read (v := .int .i64 a) (fun _ => True) (fun _ _ _ => trivial) (hCk 1 (by decide) (by decide)) (fun W h => by clear h; go_simp; (try rfl); (try (intro hneg; omega)))) ?_
      simp only [Act.put, List.setIfInBounds_toArray, List.set_cons_succ, List.set_cons_zero, Nat.reduceAdd]
      refine Many.lex_want (by rfl) (Many.tr_read (v := .int .i64 c) (fun _ => True) (fun _ _ _ => trivial) (hCk 2 (by decide) (by decide)) (fun W h => by clear h; go_simp; (try rfl); (try (intro hneg; omega)))) ?_
      simp only [Act.put, List.setIfInBounds_toArray, List.set_cons_succ, List.set_cons_zero, Nat.reduceAdd]
      refine Many.lex_want (by rfl) (Many.tr_read (v := .pointer (some ⟨w.heap.size, 0, none⟩)) (fun _ => True) (fun _ _ _ => trivial) (hCk 3 (by decide) (by decide)) (fun W h => by clear h; go_simp; (try rfl); (try (intro hneg; omega)))) ?_
      simp only [Act.put, List.setIfInBounds_toArray, List.set_cons_succ, List.set_cons_zero, Nat.reduceAdd]
      refine Many.lex_want (by rfl) (Many.tr_read (v := .int .i64 c) (fun _ => True) (fun _ _ _ => trivial) (hCk 4 (by decide) (by decide)) (fun W h => by clear h; go_simp; (try rfl); (try (intro hneg; omega)))) ?_
      simp only [Act.put, List.setIfInBounds_toArray, List.set_cons_succ, List.set_cons_zero, Nat.reduceAdd]
      refine Many.lex_want (by rfl) (Many.tr_read (v := .int .i64 a) (fun _ => True) (fun _ _ _ => trivial) (hCk 5 (by decide) (by decide)) (fun W h => by clear h; go_simp; (try rfl); (try (intro hneg; omega)))) ?_
      simp only [Act.put, List.setIfInBounds_toArray, List.set_cons_succ, List.set_cons_zero, Nat.reduceAdd]
      refine Many.lex_want (by rfl) (Many.tr_read (v := .pointer (some ⟨w.heap.size, 0, none⟩)) (fun _ => True) (fun _ _ _ => trivial) (hCk 6 (by decide) (by decide)) (fun W h => by clear h; go_simp; (try rfl); (try (intro hneg; omega)))) ?_
      simp only [Act.put, List.setIfInBounds_toArray, List.set_cons_succ, List.set_cons_zero, Nat.reduceAdd]
      refine Many.lex_want (by rfl) (Many.tr_read (v := .pointer (some ⟨w.heap.size, 1, none⟩)) (fun _ => True) (fun _ _ _ => trivial) (hCk 7 (by decide) (by decide)) (fun W h => by clear h; go_simp; (try rfl); (try (intro hneg; omega)))) ?_
      simp only [Act.put, List.setIfInBounds_toArray, List.set_cons_succ, List.set_cons_zero, Nat.reduceAdd]
      refine Many.lex_want (by rfl) (Many.tr_read (v := .pointer (some ⟨w.heap.size, 1 + a * 12, none⟩)) (fun _ => True) (fun _ _ _ => trivial) (hCk 8 (by decide) (by decide)) (fun W h => by clear h; go_simp; (try rfl); (try (intro hneg; omega)))) ?_
      simp only [Act.put, List.setIfInBounds_toArray, List.set_cons_succ, List.set_cons_zero, Nat.reduceAdd]
      refine Many.lex_want (by rfl) (Many.tr_read (v := .pointer (some ⟨w.heap.size, 1 + a * 12 + c, none⟩)) (fun _ => True) (fun _ _ _ => trivial) (hCk 9 (by decide) (by decide)) (fun W h => by clear h; go_simp; (try rfl); (try (intro hneg; omega)))) ?_
      simp only [Act.put, List.setIfInBounds_toArray, List.set_cons_succ, List.set_cons_zero, Nat.reduceAdd]
      refine Many.lex_want (by rfl) (Many.tr_step (v := undef) (fun s0 W hs hC => ?_)) ?_
      · obtain ⟨⟨⟨u, cz⟩, fz⟩, h2⟩ := hs10 s0 W hs hC
        have h2k := Keep.mk h2
        clear hC h2
        go_simp
        exact ⟨rfl, h2k.out⟩
      simp only [Act.put, List.setIfInBounds_toArray, List.set_cons_succ, List.set_cons_zero, Nat.reduceAdd]
      refine Many.lex_want (by rfl) (Many.tr_read (v := .pointer (some ⟨w.heap.size, 0, none⟩)) (fun _ => True) (fun _ _ _ => trivial) (hCk 11 (by decide) (by decide)) (fun W h => by clear h; go_simp; (try rfl); (try (intro hneg; omega)))) ?_
      simp only [Act.put, List.setIfInBounds_toArray, List.set_cons_succ, List.set_cons_zero, Nat.reduceAdd]
      refine Many.lex_want (by rfl) (Many.tr_read (v := .pointer (some ⟨w.heap.size, 1, none⟩)) (fun _ => True) (fun _ _ _ => trivial) (hCk 12 (by decide) (by decide)) (fun W h => by clear h; go_simp; (try rfl); (try (intro hneg; omega)))) ?_
      simp only [Act.put, List.setIfInBounds_toArray, List.set_cons_succ, List.set_cons_zero, Nat.reduceAdd]
      refine Many.lex_want (by rfl) (Many.tr_read (v := .pointer (some ⟨w.heap.size, 1 + c * 12, none⟩)) (fun _ => True) (fun _ _ _ => trivial) (hCk 13 (by decide) (by decide)) (fun W h => by clear h; go_simp; (try rfl); (try (intro hneg; omega)))) ?_
      simp only [Act.put, List.setIfInBounds_toArray, List.set_cons_succ, List.set_cons_zero, Nat.reduceAdd]
      refine Many.lex_want (by rfl) (Many.tr_read (v := .pointer (some ⟨w.heap.size, 1 + c * 12 + a, none⟩)) (fun _ => True) (fun _ _ _ => trivial) (hCk 14 (by decide) (by decide)) (fun W h => by clear h; go_simp; (try rfl); (try (intro hneg; omega)))) ?_
      simp only [Act.put, List.setIfInBounds_toArray, List.set_cons_succ, List.set_cons_zero, Nat.reduceAdd]
      refine Many.lex_want (by rfl) (Many.tr_step (v := undef) (fun s0 W hs hC => ?_)) ?_
      · obtain ⟨⟨⟨u, cz⟩, fz⟩, h2⟩ := hs15 s0 W hs hC
        have h2k := Keep.mk h2
        clear hC h2
        go_simp
        exact ⟨rfl, h2k.out⟩
      simp only [Act.put, List.setIfInBounds_toArray, List.set_cons_succ, List.set_cons_zero, Nat.reduceAdd]
      refine Many.lex_nil fun s9 W4 hs9 hS4 => ?_
      have hI4 := hfin s9 W4 (hs9 10 (by decide)) (hs9 15 (by decide)) hS4
      clear hS4 hs9
      go_wp2
      exact ⟨⟨k + 1, by omega, by go_num, hI4⟩, by simp [intOf]; omega⟩
    · obtain rfl : k = m := by omega
      have hlt' : ¬ (k : Int) < (k : Int) := by omega
      go_wp2
      refine bodyPost_ret (v := .tuple #[.pointer (some ⟨w.heap.size, 0, none⟩), .bool true]) (by simp [results, Try.results69, go_sem]) rfl ?_
      have h := hI.out.1
      rw [show ps.take k = ps by rw [← hm.out]; simp] at h
      exact ⟨rfl, h, hI.out.2⟩
end Go.Proofs.Yteekigpdiklppaa
