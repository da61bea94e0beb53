import Derived.Test.YteekigpdiklppaaWG
set_option linter.unusedSimpArgs false
set_option linter.unusedVariables false
namespace Go.Proofs.Yteekigpdiklppaa
open Go Go.Proofs Go.RowKit Go.Seq
attribute [local go_sem] Oper.semAt_some
/-- A pair that may come next in a chronicle. -/
def stepC (n : Nat) (adj : Nat → Nat → Bool) (s : Nat → Bool) (p : Int × Int) : Bool := decide (0 ≤ p.1 ∧ p.1 < (n : Int)) && decide (0 ≤ p.2 ∧ p.2 < (n : Int)) && s p.1.toNat && decide (onlyOf (fun u => adj p.1.toNat u && !s u) = p.2)
/-- What is wet after a chronicle, if it is one. -/
def chrT (n : Nat) (adj : Nat → Nat → Bool) : (Nat → Bool) → Pts → Option (Nat → Bool)
  | s, [] => some s
  | s, p :: ps => if stepC n adj s p = true then chrT n adj (adds s p.2.toNat) ps else none
theorem dropp {ps : Pts} {k : Nat} (h : k < ps.length) : ps.drop k = ps.getD k (0, 0) :: ps.drop (k + 1) := by
  rw [List.drop_eq_getElem_cons h, List.getD_eq_getElem?_getD, List.getElem?_eq_getElem h]; rfl
set_option maxHeartbeats 4000000 in
set_option maxRecDepth 100000 in
theorem isChronicle_any {b n : Nat} {adj : Nat → Nat → Bool} {s : Nat → Bool} {cs : Pts} {v : Value} {w : World} (hg : GraphAt w b n adj) (hn : n ≤ 12) (hv : PairsOf w v cs) (hl : cs.length ≤ 200) :
    Calls Try.prog 79 #[.pointer (some ⟨b, 0, none⟩), setV s, v] w fun e w' => e = .returned (.bool (chrT n adj s cs).isSome) ∧ Below w.heap.size w w' := by
  have hmx : Try.prog.follows .mixedOrders = true := by kernel_rfl
  obtain ⟨A, cap, rfl, hc⟩ := hv
  have hck := Keep.mk hc
  obtain ⟨m, hm⟩ : ∃ m, Keep (cs.length = m) := ⟨_, ⟨rfl⟩⟩
  rw [hm.out] at hl hck ⊢
  obtain ⟨wa, hwa⟩ : ∃ wa, w.alloc (.cells (sc s) 79) = wa := ⟨_, rfl⟩
  have ba : Below w.heap.size w wa := by rw [← hwa]; exact (Below.refl _ _).alloc (Nat.le_refl _) _
  have fa : SetAt wa w.heap.size s := by rw [← hwa]; exact SetAt.new _ _
  have hgl := hg.lt
  have hI0 := Keep.mk (And.intro fa (And.intro (hg.below ba hg.lt) ba))
  clear hc ba fa hg
  unfold setV sc
  unfold sc at hwa
  go_enter Try.func79, Try.ntmps79
  go_wp2
  try rw [hwa]
  clear hwa
  go_loopw [13] (fun i wr => ∃ k : Nat, k ≤ m ∧ i = .int .i64 k ∧ ∃ sk, Keep (chrT n adj s cs = chrT n adj sk (cs.drop k)) ∧ Keep (SetAt wr w.heap.size sk ∧ GraphAt wr b n adj ∧ Below w.heap.size w wr)) (fun i _ => m - (intOf i).toNat)
  case atStart => exact ⟨0, by omega, rfl, s, ⟨by rw [List.drop_zero]⟩, hI0⟩
  case round =>
    obtain ⟨k, hk, rfl, sk, hck2, hI⟩ := hrel
    have hw1 : IntKind.i64.wrap ((k : Int) + 1) = (k : Int) + 1 := IntWalk.i64_in _ (by omega)
    by_cases hlt : k < m
    · have hlt' : (k : Int) < (m : Int) := by omega
      obtain ⟨g, rfl, c0, c1⟩ := hck.out k hlt
      have hdrop := dropp (ps := cs) (k := k) (by rw [hm.out]; exact hlt)
      have hbz := hI.out.2.2.size
      have c0 := cell_below c0 hI.out.2.2
      have c1 := cell_below c1 hI.out.2.2
      obtain ⟨p, hp⟩ : ∃ p, cs.getD k (0, 0) = p := ⟨_, rfl⟩
      rw [hp] at c0 c1 hdrop
      obtain ⟨x, y⟩ := p
      simp only at c0 c1
      clear hp
      obtain ⟨W1, hW1⟩ : ∃ W1, wr.alloc (.cells #[.int .i64 x, .int .i64 y] 63) = W1 := ⟨_, rfl⟩
      have b1 : Below wr.heap.size wr W1 := by rw [← hW1]; exact (Below.refl _ _).alloc (Nat.le_refl _) _
      have h8 : W1.heap[wr.heap.size]? = some (.cells #[.int .i64 x, .int .i64 y] 63 (0, 0)) := by rw [← hW1]; exact World.alloc_heap_new wr _
      have hI1 : Keep (SetAt W1 w.heap.size sk ∧ GraphAt W1 b n adj ∧ Below w.heap.size w W1) := ⟨hI.out.1.after b1, hI.out.2.1.below b1 hI.out.2.1.lt, hI.out.2.2.trans (b1.mono hI.out.2.2.size)⟩
      have r0 : W1.cell? ⟨wr.heap.size, 0, none⟩ = some (.int .i64 x) := by simp [World.cell?, h8]
      have r1 : W1.cell? ⟨wr.heap.size, 1, none⟩ = some (.int .i64 y) := by simp [World.cell?, h8]
      have hdk := Keep.mk hdrop
      clear hI b1 h8 hdrop
      go_wp2
      try rw [hW1]
      clear hW1
      refine (wpIn_wide (n := 0)).1 ?_
      refine Many.region_many (Cq (W1)) hmx (by kernel_rfl) (fun s s' W' h hc => hc) (fun s hs => ⟨1, rfl⟩) ?_
      refine Many.lex_want (by rfl) (rd (v := .pointer (some ⟨wr.heap.size, 0, none⟩)) (fun q => by (go_simp; (try rfl); (try (intro hneg; omega))))) ?_
      simp only [Act.put, List.setIfInBounds_toArray, List.set_cons_succ, List.set_cons_zero, Nat.reduceAdd]
      refine Many.lex_want (by rfl) (rd (v := .int .i64 x) (fun q => by (go_simp; (try rfl); (try (intro hneg; omega))))) ?_
      simp only [Act.put, List.setIfInBounds_toArray, List.set_cons_succ, List.set_cons_zero, Nat.reduceAdd]
      refine Many.lex_want (by rfl) (rd (v := .pointer (some ⟨wr.heap.size, 1, none⟩)) (fun q => by (go_simp; (try rfl); (try (intro hneg; omega))))) ?_
      simp only [Act.put, List.setIfInBounds_toArray, List.set_cons_succ, List.set_cons_zero, Nat.reduceAdd]
      refine Many.lex_want (by rfl) (rd (v := .int .i64 y) (fun q => by (go_simp; (try rfl); (try (intro hneg; omega))))) ?_
      simp only [Act.put, List.setIfInBounds_toArray, List.set_cons_succ, List.set_cons_zero, Nat.reduceAdd]
      refine Many.lex_want (by rfl) (rd (v := .int .i64 x) (fun q => by (go_simp; (try rfl); (try (intro hneg; omega))))) ?_
      simp only [Act.put, List.setIfInBounds_toArray, List.set_cons_succ, List.set_cons_zero, Nat.reduceAdd]
      refine Many.lex_want (by rfl) (rd (v := .int .i64 y) (fun q => by (go_simp; (try rfl); (try (intro hneg; omega))))) ?_
      simp only [Act.put, List.setIfInBounds_toArray, List.set_cons_succ, List.set_cons_zero, Nat.reduceAdd]
      refine Many.lex_nil fun s9 W2 hs9 hS9 => ?_
      have hI2 : Keep (SetAt W2 w.heap.size sk ∧ GraphAt W2 b n adj ∧ Below w.heap.size w W2) := by
        obtain ⟨q, rfl⟩ := hS9
        have hb := below_dn W1 q
        exact ⟨hI1.out.1.after hb, hI1.out.2.1.below hb hI1.out.2.1.lt, hI1.out.2.2.trans (hb.mono hI1.out.2.2.size)⟩
      clear hI1 hS9 hs9 r0 r1 c0 c1
      have hdrop := hdk.out
      have qa := has_any hI2.out.2.1 x
      have qc := has_any hI2.out.2.1 y
      by_cases hx : 0 ≤ x ∧ x < (n : Int)
      · rw [decide_eq_true hx] at qa
        obtain ⟨a, ha⟩ : ∃ a : Nat, (a : Int) = x := ⟨x.toNat, by omega⟩
        subst ha
        have ha0 : ¬ (a : Int) < 0 := by omega
        have ha12 : (a : Int) < 12 := by omega
        by_cases hy : 0 ≤ y ∧ y < (n : Int)
        · rw [decide_eq_true hy] at qc
          obtain ⟨c, hc⟩ : ∃ c : Nat, (c : Int) = y := ⟨y.toNat, by omega⟩
          subst hc
          have hc0 : ¬ (c : Int) < 0 := by omega
          have hc12 : (c : Int) < 12 := by omega
          have hstep : stepC n adj sk ((a : Int), (c : Int)) = (sk a && decide (onlyOf (fun u => adj a u && !sk u) = (c : Int))) := by
            unfold stepC
            simp only [Int.toNat_natCast]
            rw [decide_eq_true hx, decide_eq_true hy]; simp
          obtain ⟨ca, fa⟩ := hI2.out.1.cell (k := a) (by omega)
          cases hsa : sk a with
          | false =>
            have hRf : Keep (chrT n adj s cs = none) := ⟨by rw [hck2.out, hdrop]; unfold chrT; rw [if_neg (by rw [hstep, hsa]; simp)]⟩
            rw [hsa] at ca
            clear hstep hsa hdrop hdk hck2
            go_wp2_with (first
              | (go_at_call 80; (with_reducible refine qa.mono ?_); rintro e w5 ⟨rfl, he5⟩; rw [he5]; clear he5 w5)
              | (go_at_call 80; (with_reducible refine qc.mono ?_); rintro e w5 ⟨rfl, he5⟩; rw [he5]; clear he5 w5))
            refine bodyPost_ret (v := .bool false) (by simp [results, Try.results79, go_sem]) rfl ?_
            exact ⟨by rw [hRf.out]; rfl, hI2.out.2.2⟩
          | true =>
            rw [hsa] at ca
            have q81 := onlyDry_any sk hI2.out.2.1 (v := a) (by omega)
            rw [hsa, Bool.true_and] at hstep
            obtain ⟨z, hz⟩ : ∃ z, onlyOf (fun u => adj a u && !sk u) = z := ⟨_, rfl⟩
            rw [hz] at q81 hstep
            obtain ⟨x0, x1, x2, x3, x4, x5, x6, x7, x8, x9, x10, x11⟩ := hI2.out.1.c12
            unfold setV sc at q81
            by_cases hzc : z = (c : Int)
            · subst hzc
              have hRf : Keep (chrT n adj s cs = chrT n adj (adds sk c) (cs.drop (k + 1))) := ⟨by rw [hck2.out, hdrop]; show (if stepC n adj sk ((a : Int), (c : Int)) = true then chrT n adj (adds sk c) (cs.drop (k + 1)) else none) = _; rw [if_pos (by rw [hstep]; simp)]⟩
              clear hstep hz hsa hdrop hdk hck2
              go_wp2_with (first
                | (go_at_call 80; (with_reducible refine qa.mono ?_); rintro e w5 ⟨rfl, he5⟩; rw [he5]; clear he5 w5)
                | (go_at_call 80; (with_reducible refine qc.mono ?_); rintro e w5 ⟨rfl, he5⟩; rw [he5]; clear he5 w5)
                | (go_at_call 81; (with_reducible refine q81.mono ?_); rintro e w6 ⟨rfl, hb6⟩
                   have hI3 : Keep (SetAt w6 w.heap.size sk ∧ GraphAt w6 b n adj ∧ Below w.heap.size w w6) := ⟨hI2.out.1.after hb6, hI2.out.2.1.below hb6 hI2.out.2.1.lt, hI2.out.2.2.trans (hb6.mono hI2.out.2.2.size)⟩
                   obtain ⟨cc, fc⟩ := hI3.out.1.cell (k := c) (by omega)
                   have hI4 : Keep (SetAt (w6.setCell ⟨w.heap.size, c, none⟩ (.bool true)) w.heap.size (adds sk c) ∧ GraphAt (w6.setCell ⟨w.heap.size, c, none⟩ (.bool true)) b n adj ∧ Below w.heap.size w (w6.setCell ⟨w.heap.size, c, none⟩ (.bool true))) := by
                     have ho : (w6.setCell ⟨w.heap.size, c, none⟩ (.bool true)).heap[b]? = w6.heap[b]? := Below.heap_setCell w6 ⟨w.heap.size, c, none⟩ (.bool true) b (by show b ≠ w.heap.size; omega)
                     exact ⟨hI3.out.1.set (by omega) (by simp [adds]) (fun j _ hj => by simp [adds, hj]), ⟨(World.cell?_of_block (a := ⟨b, 0, none⟩) ho).trans hI3.out.2.1.size, fun i j hi hj => (World.cell?_of_block (a := ⟨b, 1 + i * 12 + j, none⟩) ho).trans (hI3.out.2.1.at_ i j hi hj)⟩, hI3.out.2.2.setCell (p := ⟨w.heap.size, c, none⟩) (Nat.le_refl _) _⟩
                   clear hb6 hI2 hI3))
              exact ⟨⟨k + 1, by omega, by go_num, adds sk c, hRf, hI4⟩, by simp [intOf]; omega⟩
            · have hRf : Keep (chrT n adj s cs = none) := ⟨by rw [hck2.out, hdrop]; unfold chrT; rw [if_neg (by rw [hstep]; simp [hzc])]⟩
              clear hstep hz hsa hdrop hdk hck2
              have hzc' : (z == (c : Int)) = false := by rw [beq_eq_false_iff_ne]; exact hzc
              have hne : (z != (c : Int)) = true := by simp [bne, hzc']
              go_wp2_with (first
                | (go_at_call 80; (with_reducible refine qa.mono ?_); rintro e w5 ⟨rfl, he5⟩; rw [he5]; clear he5 w5)
                | (go_at_call 80; (with_reducible refine qc.mono ?_); rintro e w5 ⟨rfl, he5⟩; rw [he5]; clear he5 w5)
                | (go_at_call 81; (with_reducible refine q81.mono ?_); rintro e w6 ⟨rfl, hb6⟩
                   have hI3 := Keep.mk (hI2.out.2.2.trans (hb6.mono hI2.out.2.2.size))
                   clear hb6))
              refine bodyPost_ret (v := .bool false) (by simp [results, Try.results79, go_sem]) rfl ?_
              exact ⟨by rw [hRf.out]; rfl, hI3.out⟩
        · rw [decide_eq_false hy] at qc
          have hRf : Keep (chrT n adj s cs = none) := ⟨by rw [hck2.out, hdrop]; unfold chrT; rw [if_neg (by unfold stepC; rw [decide_eq_false hy]; simp)]⟩
          clear hdrop hdk hck2
          go_wp2_with (first
            | (go_at_call 80; (with_reducible refine qa.mono ?_); rintro e w5 ⟨rfl, he5⟩; rw [he5]; clear he5 w5)
            | (go_at_call 80; (with_reducible refine qc.mono ?_); rintro e w5 ⟨rfl, he5⟩; rw [he5]; clear he5 w5))
          refine bodyPost_ret (v := .bool false) (by simp [results, Try.results79, go_sem]) rfl ?_
          exact ⟨by rw [hRf.out]; rfl, hI2.out.2.2⟩
      · rw [decide_eq_false hx] at qa
        have hRf : Keep (chrT n adj s cs = none) := ⟨by rw [hck2.out, hdrop]; unfold chrT; rw [if_neg (by unfold stepC; rw [decide_eq_false hx]; simp)]⟩
        clear hdrop hdk hck2 qc
        go_wp2_with (first
          | (go_at_call 80; (with_reducible refine qa.mono ?_); rintro e w5 ⟨rfl, he5⟩; rw [he5]; clear he5 w5))
        refine bodyPost_ret (v := .bool false) (by simp [results, Try.results79, go_sem]) rfl ?_
        exact ⟨by rw [hRf.out]; rfl, hI2.out.2.2⟩
    · obtain rfl : k = m := by omega
      have hlt' : ¬ (k : Int) < (k : Int) := by omega
      have hRt : Keep ((chrT n adj s cs).isSome = true) := ⟨by rw [hck2.out, List.drop_eq_nil_of_le (by rw [hm.out]; omega)]; rfl⟩
      go_wp2
      refine bodyPost_ret (v := .bool true) (by simp [results, Try.results79, go_sem]) rfl ?_
      exact ⟨by rw [hRt.out], hI.out.2.2⟩
set_option maxHeartbeats 2000000 in
set_option maxRecDepth 100000 in
theorem check_any {N : Nat} {E cs : Pts} {ve v vc : Value} {s : Nat → Bool} {w : World} (h : GOk N E) (he : PairsOf w ve E) (hs : InN N s) (hv : IntsO w v (zsOf s)) (hvc : PairsOf w vc cs) (hl : cs.length ≤ 200) :
    Calls Try.prog 49 #[.int .i64 N, ve, v, vc] w fun e w' => e = .returned (.int .i64 (if (chrT N (adjOf E) (setOf (zsOf s)) cs).isSome = true then 0 else 10)) ∧ Below w.heap.size w w' := by
  have q57 := readSet_yes he h.gr h.len hv hs.ok (zs_len s)
  have hN := h.n12
  have q79 := Keep.mk (fun (g : Nat) (W : World) (hg : GraphAt W g N (adjOf E)) (hp : PairsOf W vc cs) => isChronicle_any (s := setOf (zsOf s)) hg hN hp hl)
  obtain ⟨S, hS⟩ : ∃ S, setOf (zsOf s) = S := ⟨_, rfl⟩
  rw [hS] at q57 q79 ⊢
  obtain ⟨R, hR⟩ : ∃ R, (chrT N (adjOf E) S cs).isSome = R := ⟨_, rfl⟩
  rw [hR] at q79 ⊢
  have hvk := Keep.mk hvc
  clear hS hR he hv hvc
  unfold setV sc at q57
  cases R with
  | true =>
    simp only [if_true]
    go_enter Try.func49, Try.ntmps49
    go_wp2_with (first
      | (go_at_call 57; (with_reducible refine q57.mono ?_); rintro e w5 ⟨g, rfl, hg5, hgl, hb5⟩
         obtain ⟨w6, hw6⟩ : ∃ w6, w5.alloc (.cells (sc S) 79) = w6 := ⟨_, rfl⟩
         have hb6 : Below w5.heap.size w5 w6 := by rw [← hw6]; exact (Below.refl _ _).alloc (Nat.le_refl _) _
         have hf6 : SetAt w6 w5.heap.size S := by rw [← hw6]; exact SetAt.new _ _
         have hbb := Keep.mk (hb5.trans (hb6.mono hb5.size))
         have q5 := q79.out g w6 (hg5.below hb6 hg5.lt).at (pairsOf_below hvk.out hbb.out)
         obtain ⟨x0, x1, x2, x3, x4, x5, x6, x7, x8, x9, x10, x11⟩ := hf6.c12
         clear hg5 hb5 hb6 hf6
         unfold sc at hw6
         unfold setV sc at q5)
      | (go_at_call 79; (with_reducible refine q5.mono ?_); rintro e w7 ⟨rfl, hb7⟩
         have hbc := Keep.mk (hbb.out.trans (hb7.mono hbb.out.size))
         clear hb7 q5))
    refine bodyPost_ret (v := .int .i64 0) (by simp [results, Try.results49, go_sem]) rfl ?_
    exact ⟨rfl, hbc.out⟩
  | false =>
    simp only [Bool.false_eq_true, if_false]
    go_enter Try.func49, Try.ntmps49
    go_wp2_with (first
      | (go_at_call 57; (with_reducible refine q57.mono ?_); rintro e w5 ⟨g, rfl, hg5, hgl, hb5⟩
         obtain ⟨w6, hw6⟩ : ∃ w6, w5.alloc (.cells (sc S) 79) = w6 := ⟨_, rfl⟩
         have hb6 : Below w5.heap.size w5 w6 := by rw [← hw6]; exact (Below.refl _ _).alloc (Nat.le_refl _) _
         have hf6 : SetAt w6 w5.heap.size S := by rw [← hw6]; exact SetAt.new _ _
         have hbb := Keep.mk (hb5.trans (hb6.mono hb5.size))
         have q5 := q79.out g w6 (hg5.below hb6 hg5.lt).at (pairsOf_below hvk.out hbb.out)
         obtain ⟨x0, x1, x2, x3, x4, x5, x6, x7, x8, x9, x10, x11⟩ := hf6.c12
         clear hg5 hb5 hb6 hf6
         unfold sc at hw6
         unfold setV sc at q5)
      | (go_at_call 79; (with_reducible refine q5.mono ?_); rintro e w7 ⟨rfl, hb7⟩
         have hbc := Keep.mk (hbb.out.trans (hb7.mono hbb.out.size))
         clear hb7 q5))
    refine bodyPost_ret (v := .int .i64 10) (by simp [results, Try.results49, go_sem]) rfl ?_
    exact ⟨rfl, hbc.out⟩
end Go.Proofs.Yteekigpdiklppaa
