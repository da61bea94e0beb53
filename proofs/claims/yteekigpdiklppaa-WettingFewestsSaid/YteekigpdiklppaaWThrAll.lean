import Derived.Test.YteekigpdiklppaaWE
set_option linter.unusedSimpArgs false
set_option linter.unusedVariables false
namespace Go.Proofs.Yteekigpdiklppaa
open Go Go.Proofs Go.RowKit Go.Seq
attribute [local go_sem] Oper.semAt_some
def NumsAt (w : World) (G M : Nat) (t : TypeId) (f : Nat → Nat) : Prop := ∃ cs : Array Value, w.heap[G]? = some (.cells cs t (0, 0)) ∧ cs.size = M ∧ ∀ j, j < M → cs[j]? = some (.int .i64 (f j))
theorem NumsAt.cell {w : World} {G M : Nat} {t : TypeId} {f : Nat → Nat} (h : NumsAt w G M t f) {j : Nat} (hj : j < M) : w.cell? ⟨G, j, none⟩ = some (.int .i64 (f j)) ∧ w.frozen? ⟨G, j, none⟩ = false := by
  obtain ⟨cs, h1, h2, h3⟩ := h
  exact ⟨by simp only [World.cell?, h1]; exact h3 j hj, by simp [World.frozen?, h1]⟩
theorem NumsAt.same {w w' : World} {G M : Nat} {t : TypeId} {f : Nat → Nat} (h : NumsAt w G M t f) (e : w'.heap[G]? = w.heap[G]?) : NumsAt w' G M t f := by
  obtain ⟨cs, h1, h2⟩ := h; exact ⟨cs, e.trans h1, h2⟩
theorem NumsAt.lt {w : World} {G M : Nat} {t : TypeId} {f : Nat → Nat} (h : NumsAt w G M t f) : G < w.heap.size := by
  obtain ⟨cs, h1, _⟩ := h; exact (Array.getElem?_eq_some_iff.1 h1).1
theorem NumsAt.below {w w' : World} {G M B : Nat} {t : TypeId} {f : Nat → Nat} (h : NumsAt w G M t f) (hb : Below B w w') (hl : G < B) : NumsAt w' G M t f := h.same (hb.block G hl)
theorem NumsAt.other {w : World} {G G' M p : Nat} {t : TypeId} {f : Nat → Nat} (h : NumsAt w G M t f) (hne : G ≠ G') (u : Value) : NumsAt (w.setCell ⟨G', p, none⟩ u) G M t f := h.same (Below.heap_setCell w ⟨G', p, none⟩ u G hne)
theorem NumsAt.fn {w : World} {G M : Nat} {t : TypeId} {f g : Nat → Nat} (h : NumsAt w G M t f) (e : ∀ j, j < M → g j = f j) : NumsAt w G M t g := by
  obtain ⟨cs, h1, h2, h3⟩ := h; exact ⟨cs, h1, h2, fun j hj => by rw [e j hj]; exact h3 j hj⟩
theorem NumsAt.set {w : World} {G M p x : Nat} {t : TypeId} {f g : Nat → Nat} (h : NumsAt w G M t f) (hp : p < M) (hx : g p = x) (hg : ∀ j, j < M → j ≠ p → g j = f j) : NumsAt (w.setCell ⟨G, p, none⟩ (.int .i64 x)) G M t g := by
  obtain ⟨cs, h1, h2, h3⟩ := h
  refine ⟨_, heap_set h1 _, by simp [h2], fun j hj => ?_⟩
  by_cases e : j = p
  · subst e; rw [hx]; simp [h2, hj]
  · rw [hg j hj e, Array.getElem?_setIfInBounds_ne (by omega)]; exact h3 j hj
theorem NumsAt.new (w : World) {M : Nat} {t : TypeId} {cs : Array Value} (h2 : cs.size = M) (h3 : ∀ j, j < M → cs[j]? = some (.int .i64 0)) : NumsAt (w.alloc (.cells cs t)) w.heap.size M t (fun _ => 0) :=
  ⟨cs, World.alloc_heap_new w _, h2, h3⟩
def Cw (V V' : World) (q : Nat) (s : Nat → Bool) (W : World) : Prop := if s q = true then W = V' else W = V
theorem Cw.keep {V V' W : World} {q k : Nat} {s : Nat → Bool} (h : Cw V V' q s W) (hk : k ≠ q) : Cw V V' q (Many.upd s k) W := by
  have e : Many.upd s k q = s q := by simp [Many.upd, hk]
  unfold Cw at *; rw [e]; exact h
theorem cw_rd {P : Program} {md : Region.Mode} {ops : Array Oper} {V V' : World} {q k : Nat} {o : Oper} {a : Act} {v : Value} (hp : Manyd.dep md ops k q = true) (hk : k ≠ q) (h : (execOp a.eval o).run P V = .ok (.value v) V) : Manyd.Tr P md ops (Cw V V' q) k o a v :=
  Manyd.tr_read q (fun W => W = V) hp (fun s w hs hC => by unfold Cw at hC; rw [hs] at hC; simpa using hC) (fun s w hC => hC.keep hk) (fun w hw => by rw [hw]; exact h)

def intZ (n : Nat) : Array Value := madeCells #[.int .i64 0] n
theorem intZ_at (n : Nat) : (intZ n).size = n ∧ ∀ j, j < n → (intZ n)[j]? = some (.int .i64 0) :=
  ⟨by unfold intZ; exact (size_madeCells _ _), fun j hj => by unfold intZ madeCells; simp [hj, Nat.mod_one]⟩
theorem made23 {N : Nat} (h : N ≤ 12) (w : World) : (Sem.run Try.prog (Instr.makeSlice 23 (.int .i64 (N : Int)) (.int .i64 (N : Int)))) w = .ok (.slice (some ⟨w.heap.size, 0, none⟩) N N) (w.alloc (.cells (intZ N) 3)) := by
  have hi := info3
  cases hI : Try.prog.info? 3 with
  | none => rw [hI] at hi; cases hi
  | some i =>
    rw [hI] at hi
    simp only [Option.map_some, Option.some.injEq, Prod.mk.injEq] at hi
    obtain ⟨z1, z2, z3⟩ := hi
    have r := run_make (P := Try.prog) w 23 3 i _ ty24 hI z1 .i64 .i64 (N : Int) (N : Int) (by omega) (by omega) (by rw [z3]; omega) (by omega)
    rw [show (N : Int).toNat = N by omega, z2, show N * 1 = N by omega] at r
    exact r
theorem numN {s : Nat → Bool} : num s = 0 ↔ ∀ j, j < 12 → s j = false := by
  rw [← num_zero]
  constructor
  · intro h j hj
    have := congrArg (fun m => m.testBit j) h
    simp only [num_bit] at this
    simpa [hj] using this
  · intro h
    exact num_ext h
def nearOf (E : Pts) (i : Nat) : Nat := num (adjOf E i)
theorem nearOf_push (E : Pts) {a c : Nat} (ha : a < 12) (hc : c < 12) (hac : a ≠ c) (i : Nat) : nearOf (E ++ [((a : Int), (c : Int))]) i = if i = a then num (adds (adjOf E a) c) else if i = c then num (adds (adjOf E c) a) else nearOf E i := by
  unfold nearOf
  by_cases h1 : i = a
  · subst h1
    rw [if_pos rfl]
    refine num_ext fun j hj => ?_
    rw [adjOf_push]
    unfold adds
    by_cases h : j = c
    · subst h; simp
    · simp [h, hac]
  · rw [if_neg h1]
    by_cases h2 : i = c
    · subst h2
      rw [if_pos rfl]
      refine num_ext fun j hj => ?_
      rw [adjOf_push]
      unfold adds
      by_cases h : j = a
      · subst h; simp
      · simp [h, h1]
    · rw [if_neg h2]
      refine num_ext fun j hj => ?_
      rw [adjOf_push]
      simp [h1, h2]
set_option maxHeartbeats 4000000 in
set_option maxRecDepth 100000 in
theorem near_any {N : Nat} {E : Pts} {ve : Value} {w : World} (hG : GOk N E) (he : PairsOf w ve E) :
    Calls Try.prog 24 #[.int .i64 N, ve] w fun e w' => ∃ G, e = .returned (.slice (some ⟨G, 0, none⟩) N N) ∧ NumsAt w' G N 3 (nearOf E) ∧ w.heap.size ≤ G ∧ Below w.heap.size w w' := by
  have hmx : Try.prog.follows .mixedOrders = true := by kernel_rfl
  have hmk := fun w => made23 hG.n12 w
  have hN12 := hG.n12
  have hlen := hG.len
  have h5k := Keep.mk hG.gr.ed
  obtain ⟨A, cap, rfl, hc⟩ := he
  have hck := Keep.mk hc
  obtain ⟨m, hm⟩ : ∃ m, Keep (E.length = m) := ⟨_, ⟨rfl⟩⟩
  rw [hm.out] at hck h5k hlen ⊢
  obtain ⟨wa, hwa⟩ : ∃ wa, w.alloc (.cells (intZ N) 3) = wa := ⟨_, rfl⟩
  have ba : Below w.heap.size w wa := by rw [← hwa]; exact (Below.refl _ _).alloc (Nat.le_refl _) _
  have n0 : NumsAt wa w.heap.size N 3 (nearOf (E.take 0)) := by
    rw [← hwa]
    have := NumsAt.new w (t := 3) (intZ_at N).1 (intZ_at N).2
    refine this.fn fun j hj => ?_
    show num (adjOf [] j) = 0
    exact numN.2 fun u hu => by simp [adjOf]
  have hI0 := Keep.mk (And.intro n0 ba)
  obtain ⟨G, hGs⟩ : ∃ G, w.heap.size = G := ⟨_, rfl⟩
  have hGk := Keep.mk hGs
  clear hc n0 ba hG
  go_enter Try.func24, Try.ntmps24
  go_wp2
  try rw [hwa]
  try rw [hGs]
  rw [hGs] at hI0
  clear hwa hmk hGs
  go_loopw [6] (fun i wr => ∃ k : Nat, k ≤ m ∧ i = .int .i64 k ∧ Keep (NumsAt wr G N 3 (nearOf (E.take k)) ∧ Below G w wr)) (fun i _ => m - (intOf i).toNat)
  case atStart => exact ⟨0, by omega, rfl, hI0⟩
  case round =>
    obtain ⟨k, hk, rfl, hI⟩ := hrel
    by_cases hlt : k < m
    · have hw1 : IntKind.i64.wrap ((k : Int) + 1) = (k : Int) + 1 := IntWalk.i64_in _ (by omega)
      have hlt' : (k : Int) < (m : Int) := by omega
      have nk : ¬ (k : Int) < 0 := by omega
      obtain ⟨g, rfl, c0, c1⟩ := hck.out k hlt
      rw [← hGk.out] at hI
      have c0 := cell_below c0 hI.out.2
      have c1 := cell_below c1 hI.out.2
      rw [hGk.out] at hI
      have hed := h5k.out k hlt
      have hpush := takep (ps := E) (k := k) (by rw [hm.out]; exact hlt)
      generalize E.getD k (0, 0) = p at c0 c1 hed hpush
      obtain ⟨x, y⟩ := p
      obtain ⟨e1, e2, e3, e4, e5, e6⟩ := hed
      simp only at c0 c1 e1 e2 e3 e4 e5 e6
      obtain ⟨a, ha⟩ : ∃ a : Nat, (a : Int) = x := ⟨x.toNat, by omega⟩
      obtain ⟨c, hcc⟩ : ∃ c : Nat, (c : Int) = y := ⟨y.toNat, by omega⟩
      subst ha hcc
      have han : a < N := by omega
      have hcn : c < N := by omega
      have hac : a ≠ c := by omega
      have hnew := nearOf_push (E.take k) (a := a) (c := c) (by omega) (by omega) hac
      rw [← hpush] at hnew
      obtain ⟨fa, hfa⟩ : ∃ f, nearOf (E.take k) a = f := ⟨_, rfl⟩
      obtain ⟨fc, hfc⟩ : ∃ f, nearOf (E.take k) c = f := ⟨_, rfl⟩
      obtain ⟨Qa, hQa⟩ : ∃ f, num (adds (adjOf (E.take k) a) c) = f := ⟨_, rfl⟩
      obtain ⟨Qc, hQc⟩ : ∃ f, num (adds (adjOf (E.take k) c) a) = f := ⟨_, rfl⟩
      obtain ⟨Pa, hPa⟩ : ∃ P : Nat, 2 ^ a = P := ⟨_, rfl⟩
      obtain ⟨Pc, hPc⟩ : ∃ P : Nat, 2 ^ c = P := ⟨_, rfl⟩
      have wPa : IntKind.i64.wrap (2 ^ a) = (Pa : Int) := by rw [← hPa]; exact wrap_pow (by omega)
      have wPc : IntKind.i64.wrap (2 ^ c) = (Pc : Int) := by rw [← hPc]; exact wrap_pow (by omega)
      have lPa : Pa ≤ 4096 := by rw [← hPa]; exact pow_lt (by omega)
      have lPc : Pc ≤ 4096 := by rw [← hPc]; exact pow_lt (by omega)
      have lfa : fa < 4096 := by rw [← hfa]; exact num_lt _
      have lfc : fc < 4096 := by rw [← hfc]; exact num_lt _
      have ora : bits .or .i64 (fa : Int) (Pc : Int) = (Qa : Int) := by
        rw [or_i64 _ _ (by omega) (by omega), ← hfa, ← hPc, ← hQa]; unfold nearOf; rw [num_or _ _ (by omega)]
      have orc : bits .or .i64 (fc : Int) (Pa : Int) = (Qc : Int) := by
        rw [or_i64 _ _ (by omega) (by omega), ← hfc, ← hPa, ← hQc]; unfold nearOf; rw [num_or _ _ (by omega)]
      have han' : (a : Int) < (N : Int) := by omega
      have hcn' : (c : Int) < (N : Int) := by omega
      have ha0 : ¬ (a : Int) < 0 := by omega
      have hc0 : ¬ (c : Int) < 0 := by omega
      have hnk := Keep.mk hnew
      have hfk := Keep.mk (And.intro hfa hfc)
      rw [hQa, hQc] at hnk
      clear hnew hfa hfc hQa hQc hPa hPc e1 e2 e3 e4 e5 e6 hpush
      go_wp2
      refine (wpIn_wide (n := 0)).1 ?_
      refine Many.region_many (Cq wr) hmx (by kernel_rfl) (fun s s' W' h hc => hc) (fun s hs => ⟨1, rfl⟩) ?_
      refine Many.lex_want (by rfl) (rd (v := .slice (some ⟨g, 0, none⟩) m cap) (fun q => by (go_simp; (try rfl); (try (intro hneg; omega))))) ?_
      simp only [Act.put, List.setIfInBounds_toArray, List.set_cons_succ, List.set_cons_zero, Nat.reduceAdd]
      refine Many.lex_want (by rfl) (rd (v := .int .i64 k) (fun q => by (go_simp; (try rfl); (try (intro hneg; omega))))) ?_
      simp only [Act.put, List.setIfInBounds_toArray, List.set_cons_succ, List.set_cons_zero, Nat.reduceAdd]
      refine Many.lex_want (by rfl) (rd (v := .pointer (some ⟨g, k * 2, none⟩)) (fun q => by (go_simp; (try rfl); (try (intro hneg; omega))))) ?_
      simp only [Act.put, List.setIfInBounds_toArray, List.set_cons_succ, List.set_cons_zero, Nat.reduceAdd]
      refine Many.lex_want (by rfl) (rd (v := .pointer (some ⟨g, k * 2, none⟩)) (fun q => by (go_simp; (try rfl); (try (intro hneg; omega))))) ?_
      simp only [Act.put, List.setIfInBounds_toArray, List.set_cons_succ, List.set_cons_zero, Nat.reduceAdd]
      refine Many.lex_want (by rfl) (rd (v := .int .i64 a) (fun q => by (go_simp; (try rfl); (try (intro hneg; omega))))) ?_
      simp only [Act.put, List.setIfInBounds_toArray, List.set_cons_succ, List.set_cons_zero, Nat.reduceAdd]
      refine Many.lex_want (by rfl) (rd (v := .slice (some ⟨g, 0, none⟩) m cap) (fun q => by (go_simp; (try rfl); (try (intro hneg; omega))))) ?_
      simp only [Act.put, List.setIfInBounds_toArray, List.set_cons_succ, List.set_cons_zero, Nat.reduceAdd]
      refine Many.lex_want (by rfl) (rd (v := .int .i64 k) (fun q => by (go_simp; (try rfl); (try (intro hneg; omega))))) ?_
      simp only [Act.put, List.setIfInBounds_toArray, List.set_cons_succ, List.set_cons_zero, Nat.reduceAdd]
      refine Many.lex_want (by rfl) (rd (v := .pointer (some ⟨g, k * 2, none⟩)) (fun q => by (go_simp; (try rfl); (try (intro hneg; omega))))) ?_
      simp only [Act.put, List.setIfInBounds_toArray, List.set_cons_succ, List.set_cons_zero, Nat.reduceAdd]
      refine Many.lex_want (by rfl) (rd (v := .pointer (some ⟨g, k * 2 + 1, none⟩)) (fun q => by (go_simp; (try rfl); (try (intro hneg; omega))))) ?_
      simp only [Act.put, List.setIfInBounds_toArray, List.set_cons_succ, List.set_cons_zero, Nat.reduceAdd]
      refine Many.lex_want (by rfl) (rd (v := .int .i64 c) (fun q => by (go_simp; (try rfl); (try (intro hneg; omega))))) ?_
      simp only [Act.put, List.setIfInBounds_toArray, List.set_cons_succ, List.set_cons_zero, Nat.reduceAdd]
      refine Many.lex_want (by rfl) (rd (v := .int .i64 a) (fun q => by (go_simp; (try rfl); (try (intro hneg; omega))))) ?_
      simp only [Act.put, List.setIfInBounds_toArray, List.set_cons_succ, List.set_cons_zero, Nat.reduceAdd]
      refine Many.lex_want (by rfl) (rd (v := .int .i64 c) (fun q => by (go_simp; (try rfl); (try (intro hneg; omega))))) ?_
      simp only [Act.put, List.setIfInBounds_toArray, List.set_cons_succ, List.set_cons_zero, Nat.reduceAdd]
      refine Many.lex_nil fun s9 W4 hs9 hS4 => ?_
      obtain ⟨q, rfl⟩ := hS4
      obtain ⟨V0, hV0⟩ : ∃ V, wr.drewN q = V := ⟨_, rfl⟩
      have b0 : Below wr.heap.size wr V0 := by rw [← hV0]; exact below_dn wr q
      have hI1 : Keep (NumsAt V0 G N 3 (nearOf (E.take k)) ∧ Below G w V0) := ⟨⟨hI.out.1.below b0 hI.out.1.lt, hI.out.2.trans (b0.mono (Nat.le_of_lt hI.out.1.lt))⟩⟩
      have cG : V0.cell? ⟨G, a, none⟩ = some (.int .i64 (fa : Nat)) := by rw [← hfk.out.1]; exact (hI1.out.1.cell han).1
      have fG : V0.frozen? ⟨G, a, none⟩ = false := (hI1.out.1.cell han).2
      rw [hV0]
      clear hV0 b0 hI c0 c1
      go_wp2
      refine (wpIn_wide (n := 0)).1 ?_
      refine Manyd.region_many (Cw V0.drew (V0.drew.setCell ⟨G, a, none⟩ (.int .i64 (Qa : Nat))) 10) hmx (by kernel_rfl) (fun s s' W' h hc => by rw [← show s = s' from funext h]; exact hc) (fun s hs => by unfold Cw; rw [hs 10 (by decide)]; rfl) ?_
      refine Manyd.lex_want (by rfl) (cw_rd (v := .slice (some ⟨G, 0, none⟩) N N) (by kernel_rfl) (by decide) (by (go_simp; (try rfl); (try (first | done | omega | (intros; omega)))))) ?_
      simp only [Act.put, List.setIfInBounds_toArray, List.set_cons_succ, List.set_cons_zero, Nat.reduceAdd]
      refine Manyd.lex_want (by rfl) (cw_rd (v := .int .i64 a) (by kernel_rfl) (by decide) (by (go_simp; (try rfl); (try (first | done | omega | (intros; omega)))))) ?_
      simp only [Act.put, List.setIfInBounds_toArray, List.set_cons_succ, List.set_cons_zero, Nat.reduceAdd]
      refine Manyd.lex_want (by rfl) (cw_rd (v := .slice (some ⟨G, 0, none⟩) N N) (by kernel_rfl) (by decide) (by (go_simp; (try rfl); (try (first | done | omega | (intros; omega)))))) ?_
      simp only [Act.put, List.setIfInBounds_toArray, List.set_cons_succ, List.set_cons_zero, Nat.reduceAdd]
      refine Manyd.lex_want (by rfl) (cw_rd (v := .int .i64 a) (by kernel_rfl) (by decide) (by (go_simp; (try rfl); (try (first | done | omega | (intros; omega)))))) ?_
      simp only [Act.put, List.setIfInBounds_toArray, List.set_cons_succ, List.set_cons_zero, Nat.reduceAdd]
      refine Manyd.lex_want (by rfl) (cw_rd (v := .pointer (some ⟨G, a, none⟩)) (by kernel_rfl) (by decide) (by (go_simp; (try rfl); (try (first | done | omega | (intros; omega)))))) ?_
      simp only [Act.put, List.setIfInBounds_toArray, List.set_cons_succ, List.set_cons_zero, Nat.reduceAdd]
      refine Manyd.lex_want (by rfl) (cw_rd (v := .int .i64 (fa : Nat)) (by kernel_rfl) (by decide) (by (go_simp; (try rfl); (try (first | done | omega | (intros; omega)))))) ?_
      simp only [Act.put, List.setIfInBounds_toArray, List.set_cons_succ, List.set_cons_zero, Nat.reduceAdd]
      refine Manyd.lex_want (by rfl) (cw_rd (v := .int .i64 c) (by kernel_rfl) (by decide) (by (go_simp; (try rfl); (try (first | done | omega | (intros; omega)))))) ?_
      simp only [Act.put, List.setIfInBounds_toArray, List.set_cons_succ, List.set_cons_zero, Nat.reduceAdd]
      refine Manyd.lex_want (by rfl) (cw_rd (v := .int .i64 (Pc : Nat)) (by kernel_rfl) (by decide) (by (go_simp; (try rfl); (try (first | done | omega | (intros; omega)))))) ?_
      simp only [Act.put, List.setIfInBounds_toArray, List.set_cons_succ, List.set_cons_zero, Nat.reduceAdd]
      refine Manyd.lex_want (by rfl) (cw_rd (v := .int .i64 (Qa : Nat)) (by kernel_rfl) (by decide) (by (go_simp; (try rfl); (try (first | done | omega | (intros; omega)))))) ?_
      simp only [Act.put, List.setIfInBounds_toArray, List.set_cons_succ, List.set_cons_zero, Nat.reduceAdd]
      refine Manyd.lex_want (by rfl) (cw_rd (v := .pointer (some ⟨G, a, none⟩)) (by kernel_rfl) (by decide) (by (go_simp; (try rfl); (try (first | done | omega | (intros; omega)))))) ?_
      simp only [Act.put, List.setIfInBounds_toArray, List.set_cons_succ, List.set_cons_zero, Nat.reduceAdd]
      refine Manyd.lex_want (by rfl) (Manyd.tr_step (v := undef) (fun s W hs hd hC => ?_)) ?_
      · unfold Cw at hC
        rw [hs] at hC
        have hWV : W = V0.drew := by simpa using hC
        rw [hWV]
        clear hC hWV hd
        go_simp
        refine ⟨rfl, ?_⟩
        unfold Cw Manyd.upd
        simp
      simp only [Act.put, List.setIfInBounds_toArray, List.set_cons_succ, List.set_cons_zero, Nat.reduceAdd]
      refine Manyd.lex_nil fun s W' hs hC => ?_
      unfold Cw at hC
      rw [hs 10 (by decide)] at hC
      obtain rfl : W' = (V0.drew.setCell ⟨G, a, none⟩ (.int .i64 (Qa : Nat))) := by simpa using hC
      clear hC hs
      obtain ⟨V1, hV1⟩ : ∃ U, V0.drew.setCell ⟨G, a, none⟩ (.int .i64 (Qa : Nat)) = U := ⟨_, rfl⟩
      have hI2 : Keep (NumsAt V1 G N 3 (fun i => if i = a then Qa else nearOf (E.take k) i) ∧ Below G w V1) := by
        have b1 : Below V0.heap.size V0 V0.drew := (Below.refl _ _).drew
        have n1 := hI1.out.1.below b1 hI1.out.1.lt
        refine ⟨⟨?_, ?_⟩⟩
        · rw [← hV1]
          exact n1.set han (by simp) (fun j hj hne => by simp [hne])
        · rw [← hV1]
          exact (hI1.out.2.trans (b1.mono (Nat.le_of_lt hI1.out.1.lt))).setCell (p := ⟨G, a, none⟩) (Nat.le_refl G) _
      have cG2 : V1.cell? ⟨G, c, none⟩ = some (.int .i64 (fc : Nat)) := by
        have := (hI2.out.1.cell hcn).1
        rw [if_neg (Ne.symm hac), hfk.out.2] at this; exact this
      have fG2 : V1.frozen? ⟨G, c, none⟩ = false := (hI2.out.1.cell hcn).2
      rw [hV1]
      clear hV1 hI1 cG fG
      go_wp2
      refine (wpIn_wide (n := 0)).1 ?_
      refine Manyd.region_many (Cw V1.drew (V1.drew.setCell ⟨G, c, none⟩ (.int .i64 (Qc : Nat))) 10) hmx (by kernel_rfl) (fun s s' W' h hc => by rw [← show s = s' from funext h]; exact hc) (fun s hs => by unfold Cw; rw [hs 10 (by decide)]; rfl) ?_
      refine Manyd.lex_want (by rfl) (cw_rd (v := .slice (some ⟨G, 0, none⟩) N N) (by kernel_rfl) (by decide) (by (go_simp; (try rfl); (try (first | done | omega | (intros; omega)))))) ?_
      simp only [Act.put, List.setIfInBounds_toArray, List.set_cons_succ, List.set_cons_zero, Nat.reduceAdd]
      refine Manyd.lex_want (by rfl) (cw_rd (v := .int .i64 c) (by kernel_rfl) (by decide) (by (go_simp; (try rfl); (try (first | done | omega | (intros; omega)))))) ?_
      simp only [Act.put, List.setIfInBounds_toArray, List.set_cons_succ, List.set_cons_zero, Nat.reduceAdd]
      refine Manyd.lex_want (by rfl) (cw_rd (v := .slice (some ⟨G, 0, none⟩) N N) (by kernel_rfl) (by decide) (by (go_simp; (try rfl); (try (first | done | omega | (intros; omega)))))) ?_
      simp only [Act.put, List.setIfInBounds_toArray, List.set_cons_succ, List.set_cons_zero, Nat.reduceAdd]
      refine Manyd.lex_want (by rfl) (cw_rd (v := .int .i64 c) (by kernel_rfl) (by decide) (by (go_simp; (try rfl); (try (first | done | omega | (intros; omega)))))) ?_
      simp only [Act.put, List.setIfInBounds_toArray, List.set_cons_succ, List.set_cons_zero, Nat.reduceAdd]
      refine Manyd.lex_want (by rfl) (cw_rd (v := .pointer (some ⟨G, c, none⟩)) (by kernel_rfl) (by decide) (by (go_simp; (try rfl); (try (first | done | omega | (intros; omega)))))) ?_
      simp only [Act.put, List.setIfInBounds_toArray, List.set_cons_succ, List.set_cons_zero, Nat.reduceAdd]
      refine Manyd.lex_want (by rfl) (cw_rd (v := .int .i64 (fc : Nat)) (by kernel_rfl) (by decide) (by (go_simp; (try rfl); (try (first | done | omega | (intros; omega)))))) ?_
      simp only [Act.put, List.setIfInBounds_toArray, List.set_cons_succ, List.set_cons_zero, Nat.reduceAdd]
      refine Manyd.lex_want (by rfl) (cw_rd (v := .int .i64 a) (by kernel_rfl) (by decide) (by (go_simp; (try rfl); (try (first | done | omega | (intros; omega)))))) ?_
      simp only [Act.put, List.setIfInBounds_toArray, List.set_cons_succ, List.set_cons_zero, Nat.reduceAdd]
      refine Manyd.lex_want (by rfl) (cw_rd (v := .int .i64 (Pa : Nat)) (by kernel_rfl) (by decide) (by (go_simp; (try rfl); (try (first | done | omega | (intros; omega)))))) ?_
      simp only [Act.put, List.setIfInBounds_toArray, List.set_cons_succ, List.set_cons_zero, Nat.reduceAdd]
      refine Manyd.lex_want (by rfl) (cw_rd (v := .int .i64 (Qc : Nat)) (by kernel_rfl) (by decide) (by (go_simp; (try rfl); (try (first | done | omega | (intros; omega)))))) ?_
      simp only [Act.put, List.setIfInBounds_toArray, List.set_cons_succ, List.set_cons_zero, Nat.reduceAdd]
      refine Manyd.lex_want (by rfl) (cw_rd (v := .pointer (some ⟨G, c, none⟩)) (by kernel_rfl) (by decide) (by (go_simp; (try rfl); (try (first | done | omega | (intros; omega)))))) ?_
      simp only [Act.put, List.setIfInBounds_toArray, List.set_cons_succ, List.set_cons_zero, Nat.reduceAdd]
      refine Manyd.lex_want (by rfl) (Manyd.tr_step (v := undef) (fun s W hs hd hC => ?_)) ?_
      · unfold Cw at hC
        rw [hs] at hC
        have hWV : W = V1.drew := by simpa using hC
        rw [hWV]
        clear hC hWV hd
        go_simp
        refine ⟨rfl, ?_⟩
        unfold Cw Manyd.upd
        simp
      simp only [Act.put, List.setIfInBounds_toArray, List.set_cons_succ, List.set_cons_zero, Nat.reduceAdd]
      refine Manyd.lex_nil fun s W' hs hC => ?_
      unfold Cw at hC
      rw [hs 10 (by decide)] at hC
      obtain rfl : W' = (V1.drew.setCell ⟨G, c, none⟩ (.int .i64 (Qc : Nat))) := by simpa using hC
      clear hC hs
      obtain ⟨V2, hV2⟩ : ∃ U, V1.drew.setCell ⟨G, c, none⟩ (.int .i64 (Qc : Nat)) = U := ⟨_, rfl⟩
      have hI3 : Keep (NumsAt V2 G N 3 (nearOf (E.take (k + 1))) ∧ Below G w V2) := by
        have b1 : Below V1.heap.size V1 V1.drew := (Below.refl _ _).drew
        have n1 := hI2.out.1.below b1 hI2.out.1.lt
        refine ⟨⟨?_, ?_⟩⟩
        · rw [← hV2]
          exact n1.set hcn (by rw [hnk.out, if_neg (Ne.symm hac), if_pos rfl]) (fun j hj hne => by
            rw [hnk.out]
            by_cases e : j = a
            · simp [e]
            · simp [e, hne])
        · rw [← hV2]
          exact (hI2.out.2.trans (b1.mono (Nat.le_of_lt hI2.out.1.lt))).setCell (p := ⟨G, c, none⟩) (Nat.le_refl G) _
      rw [hV2]
      clear hV2 hI2 cG2 fG2
      go_wp2
      exact ⟨⟨k + 1, by omega, by go_num, hI3⟩, by simp [intOf]; omega⟩
    · obtain rfl : k = m := by omega
      have hlt' : ¬ (k : Int) < (k : Int) := by omega
      rw [show E.take k = E by rw [← hm.out]; simp] at hI
      go_wp2
      refine bodyPost_ret (v := .slice (some ⟨G, 0, none⟩) N N) (by simp [results, Try.results24, go_sem]) rfl ?_
      exact ⟨G, rfl, hI.out.1, Nat.le_of_eq hGk.out, by rw [hGk.out]; exact hI.out.2⟩
end Go.Proofs.Yteekigpdiklppaa
set_option linter.unusedSimpArgs false
set_option linter.unusedVariables false
namespace Go.Proofs.Yteekigpdiklppaa
open Go Go.Proofs Go.RowKit Go.Seq
attribute [local go_sem] Oper.semAt_some
theorem zsOf_nil {s : Nat → Bool} (h : ∀ j, j < 12 → s j = false) : zsOf s = [] := by rw [zsOf_cg (t := fun _ => false) h]; rfl
theorem dry_un {b n K f : Nat} {bd cp : Array Value} {adj : Nat → Nat → Bool} {rd : (Nat → Bool) → Nat → Bool} {R : World → Prop} {s : Nat → Bool} {w : World} (hg : GraphAt w b n adj) (hn : n ≤ 12) (hq : Rnd f bd cp rd R) (hK : Stops rd s K)
    (hR : ∀ W, Below w.heap.size w W → R W) :
    Calls Try.prog 63 #[.pointer (some ⟨b, 0, none⟩), setV s, .func (.func f) bd cp] w fun e w' => ∃ lv, e = .returned (.tuple #[lv, .int .i64 (if eqb (stg rd s K) (allS n) = true then 6 else 0)]) ∧ IntsO w' lv (zsOf fun j => allS n j && !stg rd s K j) ∧ Below w.heap.size w w' := by
  refine (dry_any hg hn hq hK hR).mono ?_
  rintro e w' ⟨h1, h3⟩
  rcases h1 with ⟨e1, rfl⟩ | ⟨e1, lv, rfl, e2⟩
  · refine ⟨_, by rw [if_pos e1], intsO_nil _ (fun j hj => ?_), h3⟩
    rw [eqb_iff.1 e1 j hj]; simp
  · exact ⟨_, by rw [if_neg (by rw [e1]; simp)], ints_list e2, h3⟩
set_option maxHeartbeats 4000000 in
set_option maxRecDepth 100000 in
theorem shelter_yes {n K : Nat} {r : Int} {v v2 : Value} {ps : Pts} {zs : List Int} {w : World} (hv : PairsOf w v ps) (hok : GrOk n ps) (hl : ps.length ≤ 200) (hv2 : IntsO w v2 zs) (hzk : ListOk n zs) (hl2 : zs.length ≤ 100) (hr1 : 1 ≤ r) (hr6 : r ≤ 6)
    (hK : Stops (sokd n (adjOf ps) r) (setOf zs) K) :
    Calls Try.prog 31 #[.int .i64 n, v, v2, .int .i64 r] w fun e w' => ∃ lv, e = .returned (.tuple #[lv, .int .i64 (if eqb (stg (sokd n (adjOf ps) r) (setOf zs) K) (allS n) = true then 6 else 0)]) ∧ IntsO w' lv (zsOf fun j => allS n j && !stg (sokd n (adjOf ps) r) (setOf zs) K j) ∧ Below w.heap.size w w' := by
  have hmx : Try.prog.follows .mixedOrders = true := by kernel_rfl
  have q57 := readSet_yes hv hok hl hv2 hzk hl2
  have hn : n ≤ 12 := by have := hok.n12; omega
  have q66 := threshold_any r
  rw [decide_eq_true (And.intro hr1 hr6)] at q66
  have q67 := Keep.mk (fun g W => soak_any g r W)
  have q63 : Keep (∀ (g p : Nat) (W : World), GraphAt W g n (adjOf ps) → (W.cell? ⟨p, 0, none⟩ = some (.pointer (some ⟨g, 0, none⟩)) ∧ W.cell? ⟨p + 1, 0, none⟩ = some (.int .i64 r)) → _) := ⟨fun g p W hg h12 =>
    dry_un (w := W) hg hn (rnd_soak g n p (p + 1) (adjOf ps) r hn) hK (fun W' hb => ⟨hg.below hb hg.lt, (hb.cell (cell_lt h12.1)).trans h12.1, (hb.cell (cell_lt h12.2)).trans h12.2⟩)⟩
  obtain ⟨D, hD⟩ : ∃ D, (fun j => allS n j && !stg (sokd n (adjOf ps) r) (setOf zs) K j) = D := ⟨_, rfl⟩
  rw [hD] at q63 ⊢
  obtain ⟨er, her⟩ : ∃ er : Int, (if eqb (stg (sokd n (adjOf ps) r) (setOf zs) K) (allS n) = true then 6 else 0) = er := ⟨_, rfl⟩
  rw [her] at q63 ⊢
  obtain ⟨S, hS⟩ : ∃ S, setOf zs = S := ⟨_, rfl⟩
  rw [hS] at q57 q63
  clear hD her hS hv hv2
  unfold setV sc at q57 q63
  go_enter Try.func31, Try.ntmps31
  go_wp2_with (first
    | (go_at_call 57; (with_reducible refine q57.mono ?_); rintro e w5 ⟨g, rfl, hg5, hgl, hb5⟩
       obtain ⟨w6, hw6⟩ : ∃ w6, w5.alloc (.cells (sc S) 79) = w6 := ⟨_, rfl⟩
       have hb6 : Below w5.heap.size w5 w6 := by rw [← hw6]; exact (Below.refl _ _).alloc (Nat.le_refl _) _
       have hf6 : SetAt w6 w5.heap.size S := by rw [← hw6]; exact SetAt.new _ _
       have hg6 := (hg5.below hb6 hg5.lt).at
       obtain ⟨x0, x1, x2, x3, x4, x5, x6, x7, x8, x9, x10, x11⟩ := hf6.c12
       have hbb := Keep.mk (And.intro (hb5.trans (hb6.mono hb5.size)) (And.intro hg6 hf6))
       have hz5' := hb5.size
       skip
       clear hg5 hb5 hb6 hf6 hg6
       unfold sc at hw6)
    | (go_at_call 66; (with_reducible refine (q66 _).mono ?_); rintro e w7 ⟨rfl, he7⟩; rw [he7]; clear he7 w7))
  obtain ⟨CX, hCX⟩ : ∃ CX : (Nat → Bool) → Nat → Value → World → Prop, CX = fun t p lv W => GraphAt W g n (adjOf ps) ∧ SetAt W w5.heap.size S ∧ Below w.heap.size w W ∧ (t 4 = true → W.cell? ⟨p, 0, none⟩ = some (.pointer (some ⟨g, 0, none⟩)) ∧ W.cell? ⟨p + 1, 0, none⟩ = some (.int .i64 r)) ∧ (t 5 = true → IntsO W lv (zsOf D)) := ⟨_, rfl⟩
  have hCk : ∀ i, i ≠ 4 → i ≠ 5 → ∀ t p lv W, CX t p lv W → CX (Manyd.upd t i) p lv W := fun i h4 h5 t p lv W h => by
    rw [hCX] at h ⊢
    simp only at h ⊢
    rw [show Manyd.upd t i 4 = t 4 by simp [Manyd.upd, h4], show Manyd.upd t i 5 = t 5 by simp [Manyd.upd, h5]]; exact h
  have hCb : ∀ t p lv W, CX t p lv W → GraphAt W g n (adjOf ps) ∧ SetAt W w5.heap.size S := fun t p lv W h => by rw [hCX] at h; exact ⟨h.1, h.2.1⟩
  have hCp : ∀ t p lv W, CX t p lv W → t 4 = true → W.cell? ⟨p, 0, none⟩ = some (.pointer (some ⟨g, 0, none⟩)) ∧ W.cell? ⟨p + 1, 0, none⟩ = some (.int .i64 r) := fun t p lv W h => by rw [hCX] at h; exact h.2.2.2.1
  have hC4 : ∀ t p lv W W', CX t p lv W → t 5 = false → W' = (W.alloc (.cells #[.pointer (some ⟨g, 0, none⟩)] 77)).alloc (.cells #[.int .i64 r] 3) → CX (Manyd.upd t 4) W.heap.size lv W' := fun t p lv W W' h hn5 hW => by
    have b0 : Below W.heap.size W (W.alloc (.cells #[.pointer (some ⟨g, 0, none⟩)] 77)) := (Below.refl _ _).alloc (Nat.le_refl _) _
    have b1 : Below (W.heap.size + 1) (W.alloc (.cells #[.pointer (some ⟨g, 0, none⟩)] 77)) W' := by rw [hW]; exact (Below.refl _ _).alloc (by simp) _
    have c0 : W'.heap[W.heap.size]? = some (.cells #[.pointer (some ⟨g, 0, none⟩)] 77 (0, 0)) := (b1.block _ (by omega)).trans (World.alloc_heap_new W _)
    have c1 : W'.heap[W.heap.size + 1]? = some (.cells #[.int .i64 r] 3 (0, 0)) := by
      rw [hW, show W.heap.size + 1 = (W.alloc (.cells #[.pointer (some ⟨g, 0, none⟩)] 77)).heap.size by simp]; exact World.alloc_heap_new _ _
    have hb := b0.trans (b1.mono (by omega))
    rw [hCX] at h ⊢
    simp only at h ⊢
    obtain ⟨h1, h2, h3, h4, h5⟩ := h
    exact ⟨h1.below hb h1.lt, h2.after hb, h3.trans (hb.mono h3.size), fun _ => ⟨by simp [World.cell?, c0], by simp [World.cell?, c1]⟩, fun e => by simp [Manyd.upd, hn5] at e⟩
  have hC5 : ∀ t p lv lv2 W W', CX t p lv W → IntsO W' lv2 (zsOf D) → Below W.heap.size W W' → CX (Manyd.upd t 5) p lv2 W' := fun t p lv lv2 W W' h hi hb => by
    rw [hCX] at h ⊢
    simp only at h ⊢
    rw [show Manyd.upd t 5 4 = t 4 by simp [Manyd.upd]]
    obtain ⟨h1, h2, h3, h4, h5⟩ := h
    exact ⟨h1.below hb h1.lt, h2.after hb, h3.trans (hb.mono h3.size), fun e => ⟨(hb.cell (cell_lt (h4 e).1)).trans (h4 e).1, (hb.cell (cell_lt (h4 e).2)).trans (h4 e).2⟩, fun _ => hi⟩
  have hC0 : ∀ t : Nat → Bool, (∀ j, j < 10 → t j = false) → CX t 0 (.slice none 0 0) w6.drew := fun t ht => by
    have hb := (Below.refl w6.heap.size w6).drew
    rw [hCX]
    exact ⟨hbb.out.2.1.below hb hbb.out.2.1.lt, hbb.out.2.2.after hb, hbb.out.1.trans (hb.mono hbb.out.1.size), fun e => (by rw [ht 4 (by decide)] at e; cases e), fun e => (by rw [ht 5 (by decide)] at e; cases e)⟩
  have hCf : ∀ t p lv W, CX t p lv W → t 5 = true → Keep (IntsO W lv (zsOf D) ∧ Below w.heap.size w W) := fun t p lv W h h5 => by
    rw [hCX] at h
    exact ⟨h.2.2.2.2 h5, h.2.2.1⟩
  clear hCX hbb hw6
  refine (wpIn_wide (n := 0)).1 ?_
  refine Inv.region_inv (fun t a W => ∃ p, ∃ lv, a = { tmps := #[.int .i64 n, v, v2, .int .i64 r, undef, undef, undef, undef, if t 8 = true then lv else .slice none 0 0, if t 9 = true then .int .i64 er else .int .i64 0, .pointer (some ⟨g, 0, none⟩), .pointer (some ⟨w5.heap.size, 0, none⟩), .bool true, .tuple #[.pointer (some ⟨g, 0, none⟩), .agg #[.bool (S 0), .bool (S 1), .bool (S 2), .bool (S 3), .bool (S 4), .bool (S 5), .bool (S 6), .bool (S 7), .bool (S 8), .bool (S 9), .bool (S 10), .bool (S 11)], .bool true], .int .i64 n, v, v2, .tuple #[.pointer (some ⟨g, 0, none⟩), .agg #[.bool (S 0), .bool (S 1), .bool (S 2), .bool (S 3), .bool (S 4), .bool (S 5), .bool (S 6), .bool (S 7), .bool (S 8), .bool (S 9), .bool (S 10), .bool (S 11)], .bool true], .pointer (some ⟨g, 0, none⟩), .agg #[.bool (S 0), .bool (S 1), .bool (S 2), .bool (S 3), .bool (S 4), .bool (S 5), .bool (S 6), .bool (S 7), .bool (S 8), .bool (S 9), .bool (S 10), .bool (S 11)], .bool true, .bool true, .bool false, .bool false, .int .i64 r, .bool true, .bool false, .bool false, if t 0 = true then .pointer (some ⟨g, 0, none⟩) else undef, if t 1 = true then .agg #[.bool (S 0), .bool (S 1), .bool (S 2), .bool (S 3), .bool (S 4), .bool (S 5), .bool (S 6), .bool (S 7), .bool (S 8), .bool (S 9), .bool (S 10), .bool (S 11)] else undef, if t 2 = true then .pointer (some ⟨g, 0, none⟩) else undef, if t 3 = true then .int .i64 r else undef, if t 4 = true then .func (.func 86) #[] #[.pointer (some ⟨p, 0, none⟩), .pointer (some ⟨p + 1, 0, none⟩)] else undef, if t 5 = true then .tuple #[lv, .int .i64 er] else undef, if t 6 = true then lv else undef, if t 7 = true then .int .i64 er else undef], defers := [] } ∧ CX t p lv W) hmx (by kernel_rfl) ?_ ?_ ?_
  · intro t hs
    refine ⟨0, .slice none 0 0, ?_, hC0 t (fun j hj => hs j hj)⟩
    simp only [hs 0 (by decide), hs 1 (by decide), hs 2 (by decide), hs 3 (by decide), hs 4 (by decide), hs 5 (by decide), hs 6 (by decide), hs 7 (by decide), hs 8 (by decide), hs 9 (by decide), Bool.false_eq_true, if_false]
  · refine ⟨?_, ?_, ?_, ?_, ?_, ?_, ?_, ?_, ?_, ?_, trivial⟩
    · rintro t a W hun hdep hbeh ⟨p, lv, rfl, hT⟩
      (try simp only [Nat.reduceAdd] at hun)
      refine .inl ⟨by rfl, Inv.comesV_val (.pointer (some ⟨g, 0, none⟩)) W (by (clear hT; go_simp; (try rfl); try (intro hneg; omega))) ⟨p, lv, by (simp only [Act.put, List.setIfInBounds_toArray, List.set_cons_succ, List.set_cons_zero, Manyd.upd, Nat.reduceAdd, Nat.reduceBEq, Bool.or_false, Bool.or_true, if_true]), hCk 0 (by decide) (by decide) t p lv W hT⟩⟩
    · rintro t a W hun hdep hbeh ⟨p, lv, rfl, hT⟩
      (try simp only [Nat.reduceAdd] at hun)
      obtain ⟨e0, e1, e2, e3, e4, e5, e6, e7, e8, e9, e10, e11⟩ := (hCb t p lv W hT).2.c12
      refine .inl ⟨by rfl, Inv.comesV_val (.agg #[.bool (S 0), .bool (S 1), .bool (S 2), .bool (S 3), .bool (S 4), .bool (S 5), .bool (S 6), .bool (S 7), .bool (S 8), .bool (S 9), .bool (S 10), .bool (S 11)]) W (by (clear hT; go_simp; (try rfl); try (intro hneg; omega))) ⟨p, lv, by (simp only [Act.put, List.setIfInBounds_toArray, List.set_cons_succ, List.set_cons_zero, Manyd.upd, Nat.reduceAdd, Nat.reduceBEq, Bool.or_false, Bool.or_true, if_true]), hCk 1 (by decide) (by decide) t p lv W hT⟩⟩
    · rintro t a W hun hdep hbeh ⟨p, lv, rfl, hT⟩
      (try simp only [Nat.reduceAdd] at hun)
      refine .inl ⟨by rfl, Inv.comesV_val (.pointer (some ⟨g, 0, none⟩)) W (by (clear hT; go_simp; (try rfl); try (intro hneg; omega))) ⟨p, lv, by (simp only [Act.put, List.setIfInBounds_toArray, List.set_cons_succ, List.set_cons_zero, Manyd.upd, Nat.reduceAdd, Nat.reduceBEq, Bool.or_false, Bool.or_true, if_true]), hCk 2 (by decide) (by decide) t p lv W hT⟩⟩
    · rintro t a W hun hdep hbeh ⟨p, lv, rfl, hT⟩
      (try simp only [Nat.reduceAdd] at hun)
      refine .inl ⟨by rfl, Inv.comesV_val (.int .i64 r) W (by (clear hT; go_simp; (try rfl); try (intro hneg; omega))) ⟨p, lv, by (simp only [Act.put, List.setIfInBounds_toArray, List.set_cons_succ, List.set_cons_zero, Manyd.upd, Nat.reduceAdd, Nat.reduceBEq, Bool.or_false, Bool.or_true, if_true]), hCk 3 (by decide) (by decide) t p lv W hT⟩⟩
    · rintro t a W hun hdep hbeh ⟨p, lv, rfl, hT⟩
      (try simp only [Nat.reduceAdd] at hun)
      have h2 : t 2 = true := Inv.depB_mem 2 hdep (by rfl)
      have h3 : t 3 = true := Inv.depB_mem 3 hdep (by rfl)
      have hn5 : t 5 = false := hbeh 5 (by kernel_rfl)
      have hn8 : t 8 = false := hbeh 8 (by kernel_rfl)
      refine .inl ⟨by rfl, Inv.comesV_call 67 #[.pointer (some ⟨g, 0, none⟩), .int .i64 r] W (by (simp only [h2, h3, if_true]; clear hT; go_simp; try rfl)) ((q67.out g W).mono fun e w5 hw5 => ⟨.func (.func 86) #[] #[.pointer (some ⟨W.heap.size, 0, none⟩), .pointer (some ⟨W.heap.size + 1, 0, none⟩)], hw5.1, W.heap.size, lv, ?_, hC4 t p lv W w5 hT hn5 hw5.2⟩)⟩
      · simp only [hn5, hn8, Bool.false_eq_true, if_false]; simp only [Act.put, List.setIfInBounds_toArray, List.set_cons_succ, List.set_cons_zero, Manyd.upd, Nat.reduceAdd, Nat.reduceBEq, Bool.or_false, Bool.or_true, if_true]; simp only [hn5, hn8, Bool.false_eq_true, if_false]
    · rintro t a W hun hdep hbeh ⟨p, lv, rfl, hT⟩
      (try simp only [Nat.reduceAdd] at hun)
      have h0 : t 0 = true := Inv.depB_mem 0 hdep (by rfl)
      have h1 : t 1 = true := Inv.depB_mem 1 hdep (by rfl)
      have h4 : t 4 = true := Inv.depB_mem 4 hdep (by rfl)
      have hn6 : t 6 = false := hbeh 6 (by kernel_rfl)
      have hn8 : t 8 = false := hbeh 8 (by kernel_rfl)
      refine .inl ⟨by rfl, Inv.comesV_call 63 #[.pointer (some ⟨g, 0, none⟩), .agg #[.bool (S 0), .bool (S 1), .bool (S 2), .bool (S 3), .bool (S 4), .bool (S 5), .bool (S 6), .bool (S 7), .bool (S 8), .bool (S 9), .bool (S 10), .bool (S 11)], .func (.func 86) #[] #[.pointer (some ⟨p, 0, none⟩), .pointer (some ⟨p + 1, 0, none⟩)]] W (by (simp only [h0, h1, h4, if_true]; clear hT; go_simp; try rfl)) ((q63.out g p W (hCb t p lv W hT).1 (hCp t p lv W hT h4)).mono fun e w5 hw5 => by
        obtain ⟨lv2, r1, r2, r3⟩ := hw5
        exact ⟨.tuple #[lv2, .int .i64 er], r1, p, lv2, (by (simp only [hun, hn6, hn8, Bool.false_eq_true, if_false]; simp only [Act.put, List.setIfInBounds_toArray, List.set_cons_succ, List.set_cons_zero, Manyd.upd, Nat.reduceAdd, Nat.reduceBEq, Bool.or_false, Bool.or_true, if_true]; simp only [hn6, hn8, Bool.false_eq_true, if_false])), hC5 t p lv lv2 W w5 hT r2 r3⟩)⟩
    · rintro t a W hun hdep hbeh ⟨p, lv, rfl, hT⟩
      (try simp only [Nat.reduceAdd] at hun)
      have h5 : t 5 = true := Inv.depB_mem 5 hdep (by rfl)
      refine .inl ⟨by rfl, Inv.comesV_val (lv) W (by (simp only [h5, if_true]; clear hT; go_simp; (try rfl); try (intro hneg; omega))) ⟨p, lv, by (simp only [Act.put, List.setIfInBounds_toArray, List.set_cons_succ, List.set_cons_zero, Manyd.upd, Nat.reduceAdd, Nat.reduceBEq, Bool.or_false, Bool.or_true, if_true]), hCk 6 (by decide) (by decide) t p lv W hT⟩⟩
    · rintro t a W hun hdep hbeh ⟨p, lv, rfl, hT⟩
      (try simp only [Nat.reduceAdd] at hun)
      have h5 : t 5 = true := Inv.depB_mem 5 hdep (by rfl)
      refine .inl ⟨by rfl, Inv.comesV_val (.int .i64 er) W (by (simp only [h5, if_true]; clear hT; go_simp; (try rfl); try (intro hneg; omega))) ⟨p, lv, by (simp only [Act.put, List.setIfInBounds_toArray, List.set_cons_succ, List.set_cons_zero, Manyd.upd, Nat.reduceAdd, Nat.reduceBEq, Bool.or_false, Bool.or_true, if_true]), hCk 7 (by decide) (by decide) t p lv W hT⟩⟩
    · rintro t a W hun hdep hbeh ⟨p, lv, rfl, hT⟩
      (try simp only [Nat.reduceAdd] at hun)
      have h6 : t 6 = true := Inv.depB_mem 6 hdep (by rfl)
      refine .inl ⟨by rfl, Inv.comesV_val (lv) W (by (simp only [h6, if_true]; clear hT; go_simp; (try rfl); try (intro hneg; omega))) ⟨p, lv, by (simp only [Act.put, List.setIfInBounds_toArray, List.set_cons_succ, List.set_cons_zero, Manyd.upd, Nat.reduceAdd, Nat.reduceBEq, Bool.or_false, Bool.or_true, if_true]), hCk 8 (by decide) (by decide) t p lv W hT⟩⟩
    · rintro t a W hun hdep hbeh ⟨p, lv, rfl, hT⟩
      (try simp only [Nat.reduceAdd] at hun)
      have h7 : t 7 = true := Inv.depB_mem 7 hdep (by rfl)
      refine .inl ⟨by rfl, Inv.comesV_val (.int .i64 er) W (by (simp only [h7, if_true]; clear hT; go_simp; (try rfl); try (intro hneg; omega))) ⟨p, lv, by (simp only [Act.put, List.setIfInBounds_toArray, List.set_cons_succ, List.set_cons_zero, Manyd.upd, Nat.reduceAdd, Nat.reduceBEq, Bool.or_false, Bool.or_true, if_true]), hCk 9 (by decide) (by decide) t p lv W hT⟩⟩
  rintro t a W hs ⟨p, lv, rfl, hT⟩
  have hf := hCf t p lv W hT (hs 5 (by decide))
  simp only [hs 0 (by decide), hs 1 (by decide), hs 2 (by decide), hs 3 (by decide), hs 4 (by decide), hs 5 (by decide), hs 6 (by decide), hs 7 (by decide), hs 8 (by decide), hs 9 (by decide), if_true]
  clear hT hs hCf hC0 hCb hCk hC4 hC5 hCp
  go_wp2
  refine bodyPost_ret (v := .tuple #[lv, .int .i64 er]) (by simp [results, Try.results31, go_sem]) rfl ?_
  exact ⟨lv, rfl, hf.out.1, hf.out.2⟩
end Go.Proofs.Yteekigpdiklppaa
set_option linter.unusedSimpArgs false
set_option linter.unusedVariables false
namespace Go.Proofs.Yteekigpdiklppaa
open Go Go.Proofs Go.RowKit Go.Seq
attribute [local go_sem] Oper.semAt_some
theorem oListSl {N : Nat} {s : Nat → Bool} {n : Nat} (hn : num s = n) {l : Nat} (hl : sz s = l) (W : World) : Calls Try.prog 28 #[.int .i64 (n : Nat)] W fun e w' => ∃ X c, e = .returned (.slice X l c) ∧ IntsO w' (.slice X l c) (zsOf s) ∧ Below W.heap.size W w' := by
  refine (oList (N := N) hn W).mono ?_
  rintro e w' ⟨lv, rfl, h1, h2⟩
  obtain ⟨X, c, rfl⟩ := intsO_slice' h1
  have hz : (zsOf s).length = l := by rw [zsOf_len]; exact hl
  rw [hz] at h1 ⊢
  exact ⟨X, c, rfl, h1, h2⟩
set_option maxHeartbeats 1000000 in
set_option maxRecDepth 100000 in
theorem count_any {s : Nat → Bool} {n : Nat} (hn : num s = n) {l : Nat} (hl : sz s = l) (w : World) : Calls Try.prog 54 #[.int .i64 (n : Nat)] w fun e w' => e = .returned (.int .i64 (l : Nat)) ∧ Below w.heap.size w w' := by
  have q28 := fun W => oListSl (N := 12) hn hl W
  clear hn hl
  go_enter Try.func54, Try.ntmps54
  go_wp2_with (go_at_call 28; (with_reducible refine (q28 _).mono ?_); rintro e w1 ⟨X, c, rfl, hi1, hb1⟩; have hb := Keep.mk hb1; clear hi1 hb1)
  refine bodyPost_ret (v := .int .i64 l) (by simp [results, Try.results54, go_sem]) rfl ?_
  exact ⟨rfl, hb.out⟩
/-- A set whose places have few neighbours outside, as the reference reads it. -/
def shelterOk (E : Pts) (N : Nat) (r : Int) (D : Nat → Bool) : Prop := ∀ i, i < N → D i = true → (sz (fun j => adjOf E i j && !D j) : Int) < r
set_option maxHeartbeats 2000000 in
set_option maxRecDepth 100000 in
theorem refShelter_yes {N : Nat} {E : Pts} {r : Int} {D : Nat → Bool} {n G : Nat} {w : World} (hN : N ≤ 12) (hn : num D = n) (hG : NumsAt w G N 3 (nearOf E)) (hD : shelterOk E N r D) (h0 : 1 ≤ n) :
    Calls Try.prog 55 #[.slice (some ⟨G, 0, none⟩) N N, .int .i64 (n : Nat), .int .i64 r] w fun e w' => e = .returned (.bool true) ∧ Below w.heap.size w w' := by
  have hGk := Keep.mk hG
  have hnl : n < 4096 := by rw [← hn]; exact num_lt D
  have hbits := fun k => num_bit D k
  have q54 : Keep (∀ (i : Nat) (d l : Nat), num (fun j => adjOf E i j && !D j) = d → sz (fun j => adjOf E i j && !D j) = l → _) := ⟨fun i d l h1 h2 => fun W => count_any h1 h2 W⟩
  have hdf := Keep.mk (fun i => num_diff (adjOf E i) D)
  rw [hn] at hbits hdf
  have hDk := Keep.mk hD
  have hn0 : (0 : Int) < (n : Int) := by omega
  clear hG hD hn
  go_enter Try.func55, Try.ntmps55
  go_wp2
  go_loopw [7] (fun i wr => ∃ k : Nat, k ≤ N ∧ i = .int .i64 k ∧ Keep (Below w.heap.size w wr)) (fun i _ => N - (intOf i).toNat)
  case atStart => exact ⟨0, by omega, rfl, ⟨Below.refl _ _⟩⟩
  case round =>
    obtain ⟨k, hk, rfl, hI⟩ := hrel
    by_cases hlt : k < N
    · have hw1 : IntKind.i64.wrap ((k : Int) + 1) = (k : Int) + 1 := IntWalk.i64_in _ (by omega)
      have hlt' : (k : Int) < (N : Int) := by omega
      have hk0 : ¬ (k : Int) < 0 := by omega
      have hsh := shr_i64 n k hnl
      obtain ⟨q, hq⟩ : ∃ q, n / 2 ^ k = q := ⟨_, rfl⟩
      rw [hq] at hsh
      have hb := bit_mod n k
      rw [hq, hbits k] at hb
      obtain ⟨p, hp⟩ : ∃ p, q % 2 = p := ⟨_, rfl⟩
      have hrem : (q : Int).tmod 2 = (p : Int) := by rw [show (2 : Int) = ((2 : Nat) : Int) from rfl, IntWalk.up_tmod rfl rfl, hp]
      rw [hp] at hb
      have hbk := Keep.mk hb
      clear hb hp hq
      by_cases hbit : p = 1
      · subst hbit
        have hDb : D k = true := by have := hbk.out.1 rfl; simp at this; exact this.2
        have hsm := hDk.out k hlt hDb
        obtain ⟨f, hf⟩ : ∃ f, nearOf E k = f := ⟨_, rfl⟩
        obtain ⟨d, hd⟩ : ∃ d, num (fun j => adjOf E k j && !D j) = d := ⟨_, rfl⟩
        obtain ⟨l, hl⟩ : ∃ l, sz (fun j => adjOf E k j && !D j) = l := ⟨_, rfl⟩
        have q := q54.out k d l hd hl
        have dd : bits .andNot .i64 (f : Int) (n : Int) = (d : Int) := by
          have := hdf.out k
          rw [hd] at this; rw [← hf]; exact this
        rw [hl] at hsm
        have hsm' : ¬ (l : Int) ≥ r := by omega
        have hsm'' : ¬ r ≤ (l : Int) := by omega
        have hnx := hGk.out.below hI.out hGk.out.lt
        have cG : wr.cell? ⟨G, k, none⟩ = some (.int .i64 (f : Nat)) := by rw [← hf]; exact (hnx.cell hlt).1
        clear hf hd hl hbk hnx hsm
        go_wp2_with (go_at_call 54; (with_reducible refine (q _).mono ?_); rintro e w1 ⟨rfl, hb1⟩; have hI1 := Keep.mk (hI.out.trans (hb1.mono hI.out.size)); clear hb1)
        exact ⟨⟨k + 1, by omega, by go_num, hI1⟩, by simp [intOf]; omega⟩
      · have hbit' : ¬ (p : Int) = 1 := by omega
        clear hbk hbit
        go_wp2
        exact ⟨⟨k + 1, by omega, by go_num, hI⟩, by simp [intOf]; omega⟩
    · obtain rfl : k = N := by omega
      have hlt' : ¬ (k : Int) < (k : Int) := by omega
      go_wp2
      refine bodyPost_ret (v := .bool true) (by simp [results, Try.results55, go_sem]; omega) rfl ?_
      exact ⟨rfl, hI.out⟩
/-! Which of two sets comes first. -/
theorem lex_asymm {a b : Nat → Bool} (h : Lex a b) (h' : Lex b a ∨ Eqv b a) : False := by
  obtain ⟨u, hu, h1, h2, h3⟩ := h
  rcases h' with ⟨v, hv, g1, g2, g3⟩ | h'
  · rcases Nat.lt_trichotomy u v with h | h | h
    · have := g3 u h; rw [h1, h2] at this; cases this
    · subst h; rw [h1] at g2; cases g2
    · have := h3 v h; rw [g1, g2] at this; cases this
  · have := h' u hu; rw [h1, h2] at this; cases this
theorem vs_mem {s : Nat → Bool} {j : Nat} : j ∈ vsTo s 12 ↔ j < 12 ∧ s j = true := by unfold vsTo; rw [List.mem_filter]; simp
theorem vs_at {s : Nat → Bool} {i : Nat} (hi : i < (vsTo s 12).length) : (vsTo s 12).getD i 0 < 12 ∧ s ((vsTo s 12).getD i 0) = true := by
  rw [List.getD_eq_getElem?_getD, List.getElem?_eq_getElem hi]
  exact vs_mem.1 (List.getElem_mem hi)
theorem vs_ix {s : Nat → Bool} {j : Nat} (hj : j < 12) (h : s j = true) : ∃ i, i < (vsTo s 12).length ∧ (vsTo s 12).getD i 0 = j := by
  obtain ⟨i, hi, he⟩ := List.getElem_of_mem (vs_mem.2 ⟨hj, h⟩)
  exact ⟨i, hi, by rw [List.getD_eq_getElem?_getD, List.getElem?_eq_getElem hi]; exact he⟩
theorem first_diff {s t : Nat → Bool} {k : Nat} (hs : k < (vsTo s 12).length) (ht : k < (vsTo t 12).length) (he : ∀ i, i < k → (vsTo s 12).getD i 0 = (vsTo t 12).getD i 0) (hlt : (vsTo s 12).getD k 0 < (vsTo t 12).getD k 0) : Lex s t := by
  have mono := fun (u : Nat → Bool) (i j : Nat) (h : i < j) (hj : j < (vsTo u 12).length) => vsTo_sorted u 12 i j h hj
  obtain ⟨a1, a2⟩ := vs_at hs
  refine ⟨(vsTo s 12).getD k 0, a1, a2, ?_, fun j hj => ?_⟩
  · cases e : t ((vsTo s 12).getD k 0) with
    | false => rfl
    | true =>
      obtain ⟨i, hi, hx⟩ := vs_ix a1 e
      rcases Nat.lt_trichotomy i k with h | h | h
      · have := mono s i k h hs; have := he i h; omega
      · subst h; omega
      · have := mono t k i h hi; omega
  · rw [Bool.eq_iff_iff]
    constructor
    · intro h
      obtain ⟨i, hi, hx⟩ := vs_ix (by omega) h
      have hik : i < k := by
        rcases Nat.lt_trichotomy i k with h | h | h
        · exact h
        · subst h; omega
        · have := mono s k i h hi; omega
      have := vs_at (s := t) (i := i) (by omega)
      rw [← he i hik, hx] at this
      exact this.2
    · intro h
      obtain ⟨i, hi, hx⟩ := vs_ix (by omega) h
      have hik : i < k := by
        rcases Nat.lt_trichotomy i k with h | h | h
        · exact h
        · subst h; omega
        · have := mono t k i h hi; omega
      have := vs_at (s := s) (i := i) (by omega)
      rw [he i hik, hx] at this
      exact this.2
theorem zs_getD {s : Nat → Bool} {k : Nat} (hk : k < (vsTo s 12).length) : (zsOf s).getD k 0 = ((vsTo s 12).getD k 0 : Nat) := zsOf_at s hk
/-- Not before: the other one is smaller, or of the same size and first, or the same. -/
def NotBefore (s t : Nat → Bool) : Prop := sz t < sz s ∨ (sz t = sz s ∧ (Lex t s ∨ Eqv t s))
set_option maxHeartbeats 2000000 in
set_option maxRecDepth 100000 in
theorem before_no {s t : Nat → Bool} {a b : Nat} {w : World} (ha : num s = a) (hb : num t = b) (h : NotBefore s t) :
    Calls Try.prog 56 #[.int .i64 (a : Nat), .int .i64 (b : Nat)] w fun e w' => e = .returned (.bool false) ∧ Below w.heap.size w w' := by
  have hmx : Try.prog.follows .mixedOrders = true := by kernel_rfl
  obtain ⟨ls, hls⟩ : ∃ l, sz s = l := ⟨_, rfl⟩
  obtain ⟨lt, hlt⟩ : ∃ l, sz t = l := ⟨_, rfl⟩
  have q28a := fun W => oListSl (N := 12) ha hls W
  have q28b := fun W => oListSl (N := 12) hb hlt W
  have h12 : ls ≤ 12 := by rw [← hls]; exact vsTo_len s 12
  unfold NotBefore at h
  rw [hls, hlt] at h
  clear ha hb
  by_cases hne : lt = ls
  · have hx : Lex t s ∨ Eqv t s := by
      rcases h with h | h
      · omega
      · exact h.2
    have key : Keep (∀ k, k < ls → (∀ i, i < k → (vsTo s 12).getD i 0 = (vsTo t 12).getD i 0) → (vsTo t 12).getD k 0 ≤ (vsTo s 12).getD k 0) := ⟨fun k hk he => by
      refine Nat.le_of_not_lt fun hlt' => ?_
      exact lex_asymm (first_diff (by rw [show (vsTo s 12).length = ls from hls]; exact hk) (by rw [show (vsTo t 12).length = lt from hlt]; omega) he hlt') hx⟩
    subst hne
    have hk2 := Keep.mk (And.intro hls hlt)
    clear h hx hls hlt
    obtain ⟨l, hl⟩ : ∃ l, lt = l := ⟨_, rfl⟩
    subst hl
    obtain ⟨l, hl⟩ : ∃ l, lt = l := ⟨_, rfl⟩
    rw [hl] at q28a q28b key hk2 h12
    clear hl
    go_enter Try.func56, Try.ntmps56
    go_wp2_with (first
      | (go_at_call 28; (with_reducible refine (q28a _).mono ?_); rintro e w1 ⟨X, cx, rfl, hi1, hb1⟩
         have hk1 := Keep.mk (And.intro hi1 hb1)
         clear hi1 hb1 q28a)
      | (go_at_call 28; (with_reducible refine (q28b _).mono ?_); rintro e w2 ⟨Y, cy, rfl, hi2, hb2⟩
         have hk3 := Keep.mk (And.intro (intsO_below hk1.out.1 hb2) (And.intro hi2 (hk1.out.2.trans (hb2.mono hk1.out.2.size))))
         clear hi2 hb2 q28b hk1))
    go_loopw [7] (fun i wr => ∃ k : Nat, k ≤ l ∧ i = .int .i64 k ∧ Keep ((∀ i, i < k → (vsTo s 12).getD i 0 = (vsTo t 12).getD i 0) ∧ IntsO wr (.slice X l cx) (zsOf s) ∧ IntsO wr (.slice Y l cy) (zsOf t) ∧ Below w.heap.size w wr)) (fun i _ => l - (intOf i).toNat)
    case atStart => exact ⟨0, by omega, rfl, ⟨fun i hi => by omega, hk3.out⟩⟩
    case round =>
      obtain ⟨k, hk, rfl, hI⟩ := hrel
      by_cases hlt : k < l
      · have hw1 : IntKind.i64.wrap ((k : Int) + 1) = (k : Int) + 1 := IntWalk.i64_in _ (by omega)
        have hlt' : (k : Int) < (l : Int) := by omega
        have hk0 : ¬ (k : Int) < 0 := by omega
        have hks : k < (vsTo s 12).length := by rw [show (vsTo s 12).length = l from hk2.out.1]; exact hlt
        have hkt : k < (vsTo t 12).length := by rw [show (vsTo t 12).length = l from hk2.out.2]; exact hlt
        obtain ⟨A, cap, hv, hcx⟩ := hI.out.2.1
        injection hv with h1 h2 h3; subst h1; subst h3; clear h2
        obtain ⟨gx, ox, rfl, cx0⟩ := hcx k (by rw [zsOf_len]; exact hks)
        obtain ⟨A, cap, hv, hcy⟩ := hI.out.2.2.1
        injection hv with h1 h2 h3; subst h1; subst h3; clear h2
        obtain ⟨gy, oy, rfl, cy0⟩ := hcy k (by rw [zsOf_len]; exact hkt)
        rw [zs_getD hks] at cx0
        rw [zs_getD hkt] at cy0
        have hle := key.out k hlt hI.out.1
        obtain ⟨x, hx⟩ : ∃ x, (vsTo s 12).getD k 0 = x := ⟨_, rfl⟩
        obtain ⟨y, hy⟩ : ∃ y, (vsTo t 12).getD k 0 = y := ⟨_, rfl⟩
        rw [hx] at cx0 hle
        rw [hy] at cy0 hle
        have hxy := Keep.mk (And.intro hx hy)
        clear hx hy hcx hcy hks hkt
        go_wp2
        refine (wpIn_wide (n := 0)).1 ?_
        refine Many.region_many (Cq wr) hmx (by kernel_rfl) (fun s s' W' h hc => hc) (fun s hs => ⟨1, rfl⟩) ?_
        refine Many.lex_want (by rfl) (rd (v := .slice (some ⟨gx, ox, none⟩) l cx) (fun q => by (go_simp; (try rfl); (try (intro hneg; omega))))) ?_
        simp only [Act.put, List.setIfInBounds_toArray, List.set_cons_succ, List.set_cons_zero, Nat.reduceAdd]
        refine Many.lex_want (by rfl) (rd (v := .int .i64 k) (fun q => by (go_simp; (try rfl); (try (intro hneg; omega))))) ?_
        simp only [Act.put, List.setIfInBounds_toArray, List.set_cons_succ, List.set_cons_zero, Nat.reduceAdd]
        refine Many.lex_want (by rfl) (rd (v := .pointer (some ⟨gx, ox + k, none⟩)) (fun q => by (go_simp; (try rfl); (try (intro hneg; omega))))) ?_
        simp only [Act.put, List.setIfInBounds_toArray, List.set_cons_succ, List.set_cons_zero, Nat.reduceAdd]
        refine Many.lex_want (by rfl) (rd (v := .int .i64 x) (fun q => by (go_simp; (try rfl); (try (intro hneg; omega))))) ?_
        simp only [Act.put, List.setIfInBounds_toArray, List.set_cons_succ, List.set_cons_zero, Nat.reduceAdd]
        refine Many.lex_want (by rfl) (rd (v := .slice (some ⟨gy, oy, none⟩) l cy) (fun q => by (go_simp; (try rfl); (try (intro hneg; omega))))) ?_
        simp only [Act.put, List.setIfInBounds_toArray, List.set_cons_succ, List.set_cons_zero, Nat.reduceAdd]
        refine Many.lex_want (by rfl) (rd (v := .int .i64 k) (fun q => by (go_simp; (try rfl); (try (intro hneg; omega))))) ?_
        simp only [Act.put, List.setIfInBounds_toArray, List.set_cons_succ, List.set_cons_zero, Nat.reduceAdd]
        refine Many.lex_want (by rfl) (rd (v := .pointer (some ⟨gy, oy + k, none⟩)) (fun q => by (go_simp; (try rfl); (try (intro hneg; omega))))) ?_
        simp only [Act.put, List.setIfInBounds_toArray, List.set_cons_succ, List.set_cons_zero, Nat.reduceAdd]
        refine Many.lex_want (by rfl) (rd (v := .int .i64 y) (fun q => by (go_simp; (try rfl); (try (intro hneg; omega))))) ?_
        simp only [Act.put, List.setIfInBounds_toArray, List.set_cons_succ, List.set_cons_zero, Nat.reduceAdd]
        by_cases hxe : x = y
        · subst hxe
          refine Many.lex_want (by rfl) (rd (v := .bool false) (fun q => by (go_simp; (try rfl)))) ?_
          simp only [Act.put, List.setIfInBounds_toArray, List.set_cons_succ, List.set_cons_zero, Nat.reduceAdd]
          refine Many.lex_nil fun s9 W4 hs9 hS4 => ?_
          obtain ⟨q, rfl⟩ := hS4
          have hI2 : Keep ((∀ i, i < k + 1 → (vsTo s 12).getD i 0 = (vsTo t 12).getD i 0) ∧ IntsO (wr.drewN q) _ (zsOf s) ∧ IntsO (wr.drewN q) _ (zsOf t) ∧ Below w.heap.size w (wr.drewN q)) := ⟨fun i hi => by
            rcases Nat.lt_or_ge i k with h | h
            · exact hI.out.1 i h
            · rw [show i = k by omega, hxy.out.1, hxy.out.2], intsO_below hI.out.2.1 (below_dn wr q), intsO_below hI.out.2.2.1 (below_dn wr q), hI.out.2.2.2.trans ((below_dn wr q).mono hI.out.2.2.2.size)⟩
          go_wp2
          exact ⟨⟨k + 1, by omega, by go_num, hI2⟩, by simp [intOf]; omega⟩
        · have hxe' : ¬ (x : Int) = (y : Int) := by omega
          refine Many.lex_want (by rfl) (rd (v := .bool true) (fun q => by (go_simp; (try rfl); (try (intro hneg; omega)); (try omega)))) ?_
          simp only [Act.put, List.setIfInBounds_toArray, List.set_cons_succ, List.set_cons_zero, Nat.reduceAdd]
          refine Many.lex_nil fun s9 W4 hs9 hS4 => ?_
          obtain ⟨q, rfl⟩ := hS4
          obtain ⟨V0, hV0⟩ : ∃ V, wr.drewN q = V := ⟨_, rfl⟩
          have b0 : Below wr.heap.size wr V0 := by rw [← hV0]; exact below_dn wr q
          have cx0 := cell_below cx0 b0
          have cy0 := cell_below cy0 b0
          have hbw := Keep.mk (hI.out.2.2.2.trans (b0.mono hI.out.2.2.2.size))
          have hnlt : ¬ (x : Int) < (y : Int) := by omega
          rw [hV0]
          clear hV0 b0 hI
          go_wp2
          refine (wpIn_wide (n := 0)).1 ?_
          refine Many.region_many (Cq V0) hmx (by kernel_rfl) (fun s s' W' h hc => hc) (fun s hs => ⟨1, rfl⟩) ?_
          refine Many.lex_want (by rfl) (rd (v := .slice (some ⟨gx, ox, none⟩) l cx) (fun q => by (go_simp; (try rfl); (try (intro hneg; omega))))) ?_
          simp only [Act.put, List.setIfInBounds_toArray, List.set_cons_succ, List.set_cons_zero, Nat.reduceAdd]
          refine Many.lex_want (by rfl) (rd (v := .int .i64 k) (fun q => by (go_simp; (try rfl); (try (intro hneg; omega))))) ?_
          simp only [Act.put, List.setIfInBounds_toArray, List.set_cons_succ, List.set_cons_zero, Nat.reduceAdd]
          refine Many.lex_want (by rfl) (rd (v := .pointer (some ⟨gx, ox + k, none⟩)) (fun q => by (go_simp; (try rfl); (try (intro hneg; omega))))) ?_
          simp only [Act.put, List.setIfInBounds_toArray, List.set_cons_succ, List.set_cons_zero, Nat.reduceAdd]
          refine Many.lex_want (by rfl) (rd (v := .int .i64 x) (fun q => by (go_simp; (try rfl); (try (intro hneg; omega))))) ?_
          simp only [Act.put, List.setIfInBounds_toArray, List.set_cons_succ, List.set_cons_zero, Nat.reduceAdd]
          refine Many.lex_want (by rfl) (rd (v := .slice (some ⟨gy, oy, none⟩) l cy) (fun q => by (go_simp; (try rfl); (try (intro hneg; omega))))) ?_
          simp only [Act.put, List.setIfInBounds_toArray, List.set_cons_succ, List.set_cons_zero, Nat.reduceAdd]
          refine Many.lex_want (by rfl) (rd (v := .int .i64 k) (fun q => by (go_simp; (try rfl); (try (intro hneg; omega))))) ?_
          simp only [Act.put, List.setIfInBounds_toArray, List.set_cons_succ, List.set_cons_zero, Nat.reduceAdd]
          refine Many.lex_want (by rfl) (rd (v := .pointer (some ⟨gy, oy + k, none⟩)) (fun q => by (go_simp; (try rfl); (try (intro hneg; omega))))) ?_
          simp only [Act.put, List.setIfInBounds_toArray, List.set_cons_succ, List.set_cons_zero, Nat.reduceAdd]
          refine Many.lex_want (by rfl) (rd (v := .int .i64 y) (fun q => by (go_simp; (try rfl); (try (intro hneg; omega))))) ?_
          simp only [Act.put, List.setIfInBounds_toArray, List.set_cons_succ, List.set_cons_zero, Nat.reduceAdd]
          refine Many.lex_want (by rfl) (rd (v := .bool false) (fun q => by (go_simp; (try rfl); (try omega)))) ?_
          simp only [Act.put, List.setIfInBounds_toArray, List.set_cons_succ, List.set_cons_zero, Nat.reduceAdd]
          refine Many.lex_want (by rfl) (rd (v := .bool false) (fun q => by (go_simp; (try rfl)))) ?_
          simp only [Act.put, List.setIfInBounds_toArray, List.set_cons_succ, List.set_cons_zero, Nat.reduceAdd]
          refine Many.lex_nil fun s9 W4 hs9 hS4 => ?_
          obtain ⟨q2, rfl⟩ := hS4
          have hbw2 := Keep.mk (hbw.out.trans ((below_dn V0 q2).mono hbw.out.size))
          go_wp2
          refine bodyPost_ret (v := .bool false) (by simp [results, Try.results56, go_sem]) rfl ?_
          exact ⟨rfl, hbw2.out⟩
      · obtain rfl : k = l := by omega
        have hlt' : ¬ (k : Int) < (k : Int) := by omega
        go_wp2
        refine bodyPost_ret (v := .bool false) (by simp [results, Try.results56, go_sem]) rfl ?_
        exact ⟨rfl, hI.out.2.2.2⟩
  · have hn1 : ¬ (ls : Int) = (lt : Int) := by omega
    have hn2 : ¬ (ls : Int) < (lt : Int) := by omega
    clear h hne hls hlt
    go_enter Try.func56, Try.ntmps56
    go_wp2_with (first
      | (go_at_call 28; (with_reducible refine (q28a _).mono ?_); rintro e w1 ⟨X, cx, rfl, hi1, hb1⟩
         have hk1 := Keep.mk hb1
         clear hi1 hb1 q28a)
      | (go_at_call 28; (with_reducible refine (q28b _).mono ?_); rintro e w2 ⟨Y, cy, rfl, hi2, hb2⟩
         have hk3 := Keep.mk (hk1.out.trans (hb2.mono hk1.out.size))
         clear hi2 hb2 q28b hk1))
    refine bodyPost_ret (v := .bool false) (by simp [results, Try.results56, go_sem]; omega) rfl ?_
    exact ⟨rfl, hk3.out⟩
end Go.Proofs.Yteekigpdiklppaa
set_option linter.unusedSimpArgs false
set_option linter.unusedVariables false
namespace Go.Proofs.Yteekigpdiklppaa
open Go Go.Proofs Go.RowKit Go.Seq
/-! What soaks, by its threshold. -/
def soaking (N : Nat) (E : Pts) (r : Int) (s : Nat → Bool) : Bool := eqb (clo (sokd N (adjOf E) r) s) (allS N)
theorem soaking_cg {N : Nat} {E : Pts} {r : Int} {s t : Nat → Bool} (h : Eqv s t) : soaking N E r s = soaking N E r t := eqb_cg (clo_cg (infl_soak _ _ _) h) (fun _ _ => rfl)
theorem sokd_less {N : Nat} {adj : Nat → Nat → Bool} {r : Int} {c : Nat → Bool} {j : Nat} (h : sokd N adj (r + 1) c j = true) : sokd N adj r c j = true := by
  unfold sokd oneSo at h ⊢
  split at h
  · rename_i hn
    rw [if_pos hn]
    rw [Bool.or_eq_true] at h ⊢
    rcases h with h | h
    · exact .inl h
    · exact .inr (decide_eq_true (by have := of_decide_eq_true h; omega))
  · rename_i hn
    rw [if_neg hn]; exact h
theorem clo_less {N : Nat} {adj : Nat → Nat → Bool} {r : Int} (s : Nat → Bool) : ∀ j, j < 12 → clo (sokd N adj (r + 1)) s j = true → clo (sokd N adj r) s j = true :=
  clo_least (absorbs_soak N adj (r + 1)) (fun j _ h => clo_up (infl_soak N adj r) s j h) (fun j hj h => by rw [← clo_closed (infl_soak N adj r) s j hj]; exact sokd_less h)
theorem vsTo_part (a b : Nat → Bool) : ∀ k, (vsTo (fun j => a j && b j) k).length + (vsTo (fun j => a j && !b j) k).length = (vsTo a k).length
  | 0 => by simp [vsTo]
  | k + 1 => by
    have ih := vsTo_part a b k
    rw [vsTo_succ, vsTo_succ, vsTo_succ]
    cases ha : a k with
    | false => simp; omega
    | true =>
      cases hb : b k with
      | false => simp; omega
      | true => simp; omega
theorem shelter_ok {N : Nat} {E : Pts} (hG : GOk N E) {r : Int} (S : Nat → Bool) : shelterOk E N r (fun j => allS N j && !clo (sokd N (adjOf E) r) S j) := by
  intro i hi hd
  have hcl := clo_closed (infl_soak N (adjOf E) r) S i (by have := hG.n12; omega)
  obtain ⟨C, hC⟩ : ∃ C, clo (sokd N (adjOf E) r) S = C := ⟨_, rfl⟩
  rw [hC] at hcl hd ⊢
  have hci : C i = false := by
    cases e : C i with
    | false => rfl
    | true => simp [e] at hd
  rw [hci] at hcl
  unfold sokd oneSo at hcl
  rw [if_pos hi, hci, Bool.false_or] at hcl
  have h1 := of_decide_eq_false hcl
  unfold hit at h1
  have hp := vsTo_part (adjOf E i) C 12
  have he : sz (fun j => adjOf E i j && !(allS N j && !C j)) = (vsTo (fun j => adjOf E i j && C j) 12).length := by
    refine sz_cg fun j hj => ?_
    cases ha : adjOf E i j with
    | false => rfl
    | true =>
      have := hG.adj ha
      simp [allS, this]
  rw [he]
  omega
theorem soaking_ne {N : Nat} {E : Pts} (hG : GOk N E) {r : Int} (hr : 1 ≤ r) {S : Nat → Bool} (hf : soaking N E r S = true) : 1 ≤ sz S := by
  refine Nat.one_le_iff_ne_zero.2 fun h0 => ?_
  have he : ∀ j, j < 12 → S j = false := fun j hj => by
    cases e : S j with
    | false => rfl
    | true => have := (sz_mono (a := (fun _ => false)) (b := S) (fun j hj h => by cases h)).2 ⟨j, hj, rfl, e⟩; omega
  have h1 := eqb_iff.1 hf 0 (by omega)
  have h2 : clo (sokd N (adjOf E) r) S 0 = true := by rw [h1]; simp [allS]; exact hG.n1
  have h3 := clo_least (absorbs_soak N (adjOf E) r) (s := S) (c := (fun _ => false)) (fun j hj h => by rw [he j hj] at h; cases h) (fun j hj h => by
    unfold sokd oneSo hit at h
    split at h
    · simp at h; omega
    · exact h) 0 (by omega) h2
  cases h3
theorem soaking_all {N : Nat} {E : Pts} (hG : GOk N E) (r : Int) : soaking N E r (allS N) = true := eqb_iff.2 fun j hj => by
  have hIn := inN_soak r hG (s := allS N) (fun j h1 h2 => by simp [allS]; omega)
  cases e : allS N j with
  | true => exact clo_up (infl_soak _ _ _) _ j e
  | false => exact hIn j (by simpa [allS] using e) hj
/-- The first of the sets that soak comes before no other. -/
theorem fewest_ok {N : Nat} {E : Pts} (hG : GOk N E) {r : Int} (hr : 1 ≤ r) : InN N (leastOf N (soaking N E r)) ∧ ∀ S, InN N S → soaking N E r S = true → NotBefore S (leastOf N (soaking N E r)) := by
  have key : ∀ S, InN N S → soaking N E r S = true → ∃ l, (setsTo N N).find? (soaking N E r) = some l ∧ NotBefore S l := fun S hS hf => by
    have h1 := soaking_ne hG hr hf
    have hle := sz_in hG.n12 hS
    obtain ⟨s', hs, he⟩ := lev_full hG.n12 hS (m := sz S - 1 + 1) (by omega)
    obtain ⟨rest, hr⟩ := setsTo_rest N (k := sz S - 1) (M := N) (by omega)
    have hf' : soaking N E r s' = true := by rw [soaking_cg he]; exact hf
    rw [hr, List.find?_append]
    cases hx : (setsTo N (sz S - 1)).find? (soaking N E r) with
    | some l =>
      refine ⟨l, rfl, .inl ?_⟩
      have := setsTo_sz hG.n12 (List.mem_of_find?_eq_some hx); omega
    | none =>
      rw [List.find?_append]
      have hpw := fillL_lex hG.n12 (sz S - 1 + 1) (fun _ => false) 0 none_hi
      have hlev := fun x (h : x ∈ fillL N (sz S - 1 + 1) (fun _ => false) 0) => lev_in hG.n12 h
      generalize fillL N (sz S - 1 + 1) (fun _ => false) 0 = lv at hs hpw hlev
      cases hy : lv.find? (soaking N E r) with
      | none => exact absurd hf' (List.find?_eq_none.1 hy s' hs)
      | some l =>
        refine ⟨l, rfl, .inr ?_⟩
        have hz := (hlev l (List.mem_of_find?_eq_some hy)).1
        refine ⟨by omega, ?_⟩
        obtain ⟨_, pre, post, hlv, hpre⟩ := List.find?_eq_some_iff_append.1 hy
        rw [hlv] at hs hpw
        rcases List.mem_append.1 hs with hs | hs
        · have := hpre s' hs; simp [hf'] at this
        · rcases List.mem_cons.1 hs with rfl | hs
          · exact .inr he
          · rw [List.pairwise_append, List.pairwise_cons] at hpw
            obtain ⟨u, g1, g2, g3, g4⟩ := hpw.2.1.1 s' hs
            refine .inl ⟨u, g1, g2, by rw [← he u g1]; exact g3, fun j hj => by rw [← he j (by omega)]; exact g4 j hj⟩
  obtain ⟨l, hl, _⟩ := key (allS N) (fun j h1 h2 => by simp [allS]; omega) (soaking_all hG r)
  have he : leastOf N (soaking N E r) = l := by unfold leastOf; rw [hl]; rfl
  rw [he]
  refine ⟨setsTo_in (List.mem_of_find?_eq_some hl), fun S hS hf => ?_⟩
  obtain ⟨l2, h1, h2⟩ := key S hS hf
  rw [hl] at h1
  cases h1
  exact h2
/-! The functions as the law calls them. -/
theorem oFewest {N : Nat} {E : Pts} (hG : GOk N E) {r : Int} (hr1 : 1 ≤ r) (hr6 : r ≤ 6) {F : Nat → Bool} (hF : leastOf N (soaking N E r) = F) (W : World) (ve : Value) (he : PairsOf W ve E) :
    Calls Try.prog 39 #[.int .i64 N, ve, .int .i64 r] W fun e w' => ∃ lv, e = .returned (.tuple #[lv, .int .i64 0]) ∧ IntsO w' lv (zsOf F) ∧ Below W.heap.size W w' := by
  refine (Fewest_yes (kfOf (sokd N (adjOf E) r)) he hG.gr hG.len hr1 hr6 (fun s => stops_kf (infl_soak _ _ _) s)).mono ?_
  rintro e w' ⟨lv, rfl, h1, h2⟩
  rw [show (leastOf N fun s => eqb (stg (sokd N (adjOf E) r) s (kfOf (sokd N (adjOf E) r) s)) (allS N)) = F from hF] at h1
  exact ⟨lv, rfl, lists_of h1 (t := F) (fun _ _ => rfl), h2⟩
theorem oSoakSl {N : Nat} {E : Pts} {r : Int} {s : Nat → Bool} (h : GOk N E) (hr1 : 1 ≤ r) (hr6 : r ≤ 6) (hs : InN N s) {A : Nat → Bool} (hA : clo (sokd N (adjOf E) r) s = A) {la : Nat} (hla : sz A = la) {k : Nat} (hk : kfOf (sokd N (adjOf E) r) s = k) (W : World) (ve v : Value) (he : PairsOf W ve E) (hv : IntsO W v (zsOf s)) :
    Calls Try.prog 30 #[.int .i64 N, ve, v, .int .i64 r] W fun e w' => ∃ X cap, e = .returned (.tuple #[.slice X la cap, .int .i64 k, .int .i64 0]) ∧ IntsO w' (.slice X la cap) (zsOf A) ∧ Below W.heap.size W w' := (oSoak h hr1 hr6 he hs hv).mono fun e w' ⟨lv, h1, h2, h3⟩ => by
  rw [hA] at h2; rw [hk] at h1
  obtain ⟨X, cap, rfl⟩ := intsO_slice' h2
  have hz : (zsOf A).length = la := by rw [zsOf_len]; exact hla
  rw [hz] at h1 h2
  exact ⟨X, cap, h1, h2, h3⟩
theorem oShelter {N : Nat} {E : Pts} {r : Int} {s : Nat → Bool} (h : GOk N E) (hr1 : 1 ≤ r) (hr6 : r ≤ 6) (hs : InN N s) (W : World) (ve v : Value) (he : PairsOf W ve E) (hv : IntsO W v (zsOf s)) :
    Calls Try.prog 31 #[.int .i64 N, ve, v, .int .i64 r] W fun e w' => ∃ lv : Value, e = .returned (.tuple #[lv, .int .i64 (if soaking N E r s = true then 6 else 0)]) ∧ IntsO w' lv (zsOf fun j => allS N j && !clo (sokd N (adjOf E) r) s j) ∧ Below W.heap.size W w' := by
  have hr := infl_soak N (adjOf E) r
  have hc : ∀ j, j < 12 → setOf (zsOf s) j = s j := fun j hj => setOf_zsOf s hj
  refine (shelter_yes he h.gr h.len hv hs.ok (zs_len s) hr1 hr6 (stops_kf hr _)).mono ?_
  rintro e w' ⟨lv, h1, h2, h3⟩
  have hst := stg_cg hr hc (kfOf (sokd N (adjOf E) r) s)
  rw [kf_cg hr hc] at h1 h2
  rw [eqb_cg hst (fun _ _ => rfl)] at h1
  exact ⟨lv, h1, by rw [zsOf_cg (t := fun j => allS N j && !clo (sokd N (adjOf E) r) s j) (fun j hj => by rw [hst j hj]; rfl)] at h2; exact h2, h3⟩
set_option maxRecDepth 100000 in
theorem arg2 {W : World} {r : Reach} {b0 : Nat} {v : Value} (hval : Value.okWide Try.prog W r b0 63 v) : ∃ a b : Int, v = .agg #[.int .i64 a, .int .i64 b] := by
  obtain ⟨cs, rfl, h1, h2⟩ := arr_ints (n := 2) (m := 2) (k := 3) (by kernel_rfl) (by kernel_rfl) (by kernel_rfl) (by kernel_rfl) hval
  obtain ⟨a, b, rfl⟩ := arr2 h1 h2
  exact ⟨a, b, rfl⟩
end Go.Proofs.Yteekigpdiklppaa
