import Derived.Test.YteekigpdiklppaaWTameM
set_option linter.unusedSimpArgs false
set_option linter.unusedVariables false
namespace Go.Proofs.Yteekigpdiklppaa
open Go Go.Proofs Go.RowKit Go.Seq
attribute [local go_sem] Oper.semAt_some
/-- A list of pairs that came in. -/
def PairsO (w : World) (v : Value) (ps : Pts) : Prop :=
  ∃ A cap, v = .slice A ps.length cap ∧ ∀ k, k < ps.length → ∃ g o, A = some ⟨g, o, none⟩ ∧ w.cell? ⟨g, o + k * 2, none⟩ = some (.int .i64 (ps.getD k (0, 0)).1) ∧ w.cell? ⟨g, o + k * 2 + 1, none⟩ = some (.int .i64 (ps.getD k (0, 0)).2)
def enc2 (ps : Pts) : List Value := ps.flatMap fun p => [vz p.1, vz p.2]
theorem enc2_push (ps : Pts) (x y : Int) : enc2 (ps ++ [(x, y)]) = enc2 ps ++ [.int .i64 x, .int .i64 y] := by simp [enc2, vz]
theorem enc2_len (ps : Pts) : (enc2 ps).length = ps.length * 2 := by
  unfold enc2
  induction ps with
  | nil => rfl
  | cons p l ih => simp only [List.flatMap_cons, List.length_append, List.length_cons, List.length_nil, ih]; omega
theorem enc2_at : ∀ (ps : Pts) {k : Nat}, k < ps.length → (enc2 ps)[k * 2]? = some (vz (ps.getD k (0, 0)).1) ∧ (enc2 ps)[k * 2 + 1]? = some (vz (ps.getD k (0, 0)).2)
  | [], k, h => by simp at h
  | p :: l, 0, h => by simp [enc2]
  | p :: l, k + 1, h => by
    have := enc2_at l (k := k) (by simpa using h)
    rw [show (k + 1) * 2 = k * 2 + 1 + 1 by omega]
    simpa [enc2] using this
theorem own_pairs {w : World} {B : Nat} {v : Value} {ps : Pts} (h : w.ownsRow B 63 2 v ps.length (enc2 ps)) : PairsOf w v ps := by
  obtain ⟨h1, h2⟩ := h
  rcases h2 with ⟨rfl, h0⟩ | ⟨g, cap, cur, rfl, hg, hh, hn, hcap, hsz, htake⟩
  · exact ⟨none, 0, by rw [h0], fun k hk => by omega⟩
  · refine ⟨_, cap, rfl, fun k hk => ⟨g, rfl, ?_, ?_⟩⟩
    · have e : (cur.toList.take (ps.length * 2))[k * 2]? = (enc2 ps)[k * 2]? := by rw [htake]
      rw [List.getElem?_take_of_lt (by omega), (enc2_at ps hk).1] at e
      have : cur[k * 2]? = some (vz (ps.getD k (0, 0)).1) := by rw [← Array.getElem?_toList, e]
      simp [World.cell?, hh, this, vz]
    · have e : (cur.toList.take (ps.length * 2))[k * 2 + 1]? = (enc2 ps)[k * 2 + 1]? := by rw [htake]
      rw [List.getElem?_take_of_lt (by omega), (enc2_at ps hk).2] at e
      have : cur[k * 2 + 1]? = some (vz (ps.getD k (0, 0)).2) := by rw [← Array.getElem?_toList, e]
      simp [World.cell?, hh, this, vz]
theorem cell_two_new (w : World) (a b : Value) (t : TypeId) : ∀ j u, [a, b][j]? = some u → (w.alloc (.cells #[a, b] t)).cell? ((⟨w.heap.size, 0, none⟩ : Addr).add j) = some u := by
  intro j u hj
  match j, hj with
  | 0, hj => simp at hj; subst hj; simp [Addr.add]
  | 1, hj => simp at hj; subst hj; simp [Addr.add]
  | j + 2, hj => simp at hj
theorem two_one (x y : Int) : ∀ u ∈ [Value.int .i64 x, Value.int .i64 y], u.oneCell' = true := by
  intro u hu
  simp only [List.mem_cons, List.not_mem_nil, or_false] at hu
  rcases hu with rfl | rfl <;> rfl
theorem ty22 : Try.prog.underlying 22 = some (.slice 63) := by kernel_rfl
theorem info63 : (Try.prog.info? 63).map (fun i => (i.zero, i.size, i.bytes)) = some (some (.agg #[.int .i64 0, .int .i64 0]), 2, 16) := by kernel_rfl
set_option maxHeartbeats 2000000 in
set_option maxRecDepth 100000 in
theorem tame_any (n0 : Int) {v : Value} {ps : Pts} {w : World} (hv : PairsO w v ps) (hl : ps.length ≤ 9223372036854775807) :
    Calls Try.prog 50 #[.int .i64 n0, v] w fun e w' => ∃ v', e = .returned (.tuple #[.int .i64 (1 + modN n0 12 : Nat), v']) ∧ w'.ownsRow w.heap.size 63 2 v' (tameE (1 + modN n0 12) ps).length (enc2 (tameE (1 + modN n0 12) ps)) ∧ Below w.heap.size w w' := by
  have hmx : Try.prog.follows .mixedOrders = true := by kernel_rfl
  obtain ⟨i0, hi0, hz0, hz1, hz2⟩ : ∃ i, Try.prog.info? 63 = some i ∧ i.zero = some (.agg #[.int .i64 0, .int .i64 0]) ∧ i.size = 2 ∧ i.bytes = 16 := by
    have h := info63
    cases hI : Try.prog.info? 63 with
    | none => rw [hI] at h; cases h
    | some i =>
      rw [hI] at h
      simp only [Option.map_some, Option.some.injEq, Prod.mk.injEq] at h
      exact ⟨i, rfl, h.1, h.2.1, h.2.2⟩
  obtain ⟨A, cap, rfl, hc⟩ := hv
  have hck := Keep.mk hc
  have q0 : ∀ w, Calls Try.prog 53 #[.int .i64 n0, .int .i64 12] w fun e w' => e = .returned (.int .i64 (modN n0 12 : Nat)) ∧ w' = w := fun w => mod_any n0 (m := 12) (by omega) (by omega) w
  have hml := modN_lt n0 (m := 12) (by omega)
  obtain ⟨M, hM⟩ : ∃ M, modN n0 12 = M := ⟨_, rfl⟩
  rw [hM] at q0 hml ⊢
  obtain ⟨N, hN⟩ : ∃ N, 1 + M = N := ⟨_, rfl⟩
  rw [hN]
  have hN1 : 1 ≤ N := by omega
  have hN12 : N ≤ 12 := by omega
  have hNw : IntKind.i64.wrap (1 + (M : Int)) = (N : Int) := by rw [show (1 : Int) + M = N by omega]; exact IntWalk.i64_in _ (by omega)
  have htk := Keep.mk (fun k => tameE_ok hN1 hN12 (ps.take k))
  obtain ⟨m, hm⟩ : ∃ m, Keep (ps.length = m) := ⟨_, ⟨rfl⟩⟩
  rw [hm.out] at hl hck ⊢
  clear hc hM hN
  go_enter Try.func50, Try.ntmps50
  go_wp2_with (first
    | (go_at_call 53; (with_reducible refine (q0 _).mono ?_); rintro e w5 ⟨rfl, he5⟩; rw [he5]; clear he5 w5))
  clear q0
  go_loopw [7, 6] (fun i o wr => ∃ k : Nat, k ≤ m ∧ i = .int .i64 k ∧ Keep (wr.ownsRow w.heap.size 63 2 o (tameE N (ps.take k)).length (enc2 (tameE N (ps.take k))) ∧ Below w.heap.size w wr) ∧ ∃ A2 d2, o = .slice A2 (tameE N (ps.take k)).length d2) (fun i _ _ => m - (intOf i).toNat)
  case atStart => exact ⟨0, by omega, rfl, ⟨by simpa [tameE, enc2] using World.ownsRow_nil _ _ _ _, Below.refl _ _⟩, _, _, by first | rfl | simp [tameE]⟩
  case round =>
    obtain ⟨k, hk, rfl, hI, A2, d2, rfl⟩ := hrel
    by_cases hlt : k < m
    · have hw1 : IntKind.i64.wrap ((k : Int) + 1) = (k : Int) + 1 := IntWalk.i64_in _ (by omega)
      have hlt' : (k : Int) < (m : Int) := by omega
      obtain ⟨g, o, rfl, c0, c1⟩ := hck.out k hlt
      have c0 := cell_below c0 hI.out.2
      have c1 := cell_below c1 hI.out.2
      have hpush : tameE N (ps.take (k + 1)) = tameStep N (tameE N (ps.take k)) (ps.getD k (0, 0)) := by rw [takep (by rw [hm.out]; exact hlt), tameE_snoc]
      have hTk := htk.out k
      have hTk1 := htk.out (k + 1)
      obtain ⟨E, hE⟩ : ∃ E, tameE N (ps.take k) = E := ⟨_, rfl⟩
      rw [hE] at hI hpush hTk ⊢
      generalize ps.getD k (0, 0) = p at c0 c1 hpush
      obtain ⟨x, y⟩ := p
      simp only at c0 c1
      have qa := mod_any x (m := N) hN1 (by omega)
      have qb := mod_any y (m := N) hN1 (by omega)
      have hla := modN_lt x hN1
      have hlb := modN_lt y hN1
      unfold tameStep pairM at hpush
      simp only at hpush
      obtain ⟨a, ha⟩ : ∃ a, modN x N = a := ⟨_, rfl⟩
      obtain ⟨b, hb⟩ : ∃ b, modN y N = b := ⟨_, rfl⟩
      rw [ha] at qa hla hpush
      rw [hb] at qb hlb hpush
      have nk : ¬ (k : Int) < 0 := by omega
      have hIk := hI
      clear hE ha hb hI
      go_wp2
      refine (wpIn_wide (n := 0)).1 ?_
      refine Many.region_many (Cq wr) hmx (by kernel_rfl) (fun s s' W' h hc => hc) (fun s hs => ⟨1, rfl⟩) ?_
      refine Many.lex_want (by rfl) (rd (v := .slice (some ⟨g, o, none⟩) m cap) (fun q => by (go_simp; (try rfl); (try (intro hneg; omega))))) ?_
      simp only [Act.put, List.setIfInBounds_toArray, List.set_cons_succ, List.set_cons_zero, Nat.reduceAdd]
      refine Many.lex_want (by rfl) (rd (v := .int .i64 k) (fun q => by (go_simp; (try rfl); (try (intro hneg; omega))))) ?_
      simp only [Act.put, List.setIfInBounds_toArray, List.set_cons_succ, List.set_cons_zero, Nat.reduceAdd]
      refine Many.lex_want (by rfl) (rd (v := .pointer (some ⟨g, o + k * 2, none⟩)) (fun q => by (go_simp; (try rfl); (try (intro hneg; omega))))) ?_
      simp only [Act.put, List.setIfInBounds_toArray, List.set_cons_succ, List.set_cons_zero, Nat.reduceAdd]
      refine Many.lex_want (by rfl) (rd (v := .pointer (some ⟨g, o + k * 2, none⟩)) (fun q => by (go_simp; (try rfl); (try (intro hneg; omega))))) ?_
      simp only [Act.put, List.setIfInBounds_toArray, List.set_cons_succ, List.set_cons_zero, Nat.reduceAdd]
      refine Many.lex_want (by rfl) (rd (v := .int .i64 x) (fun q => by (go_simp; (try rfl); (try (intro hneg; omega))))) ?_
      simp only [Act.put, List.setIfInBounds_toArray, List.set_cons_succ, List.set_cons_zero, Nat.reduceAdd]
      refine Many.lex_want (by rfl) (rd (v := .int .i64 N) (fun q => by (go_simp; (try rfl); (try (intro hneg; omega))))) ?_
      simp only [Act.put, List.setIfInBounds_toArray, List.set_cons_succ, List.set_cons_zero, Nat.reduceAdd]
      refine Many.lex_want (by rfl) (Many.tr_call (v := .int .i64 a) (f := 53) (args := #[.int .i64 x, .int .i64 N]) (fun w' => ∃ q, w' = wr.drewN q) (fun _ _ h => h) (fun s0 W h => (qa W).mono (fun e W' hw' => ⟨hw'.1, by rw [hw'.2]; exact h⟩)) (fun W h => by obtain ⟨q, rfl⟩ := h; go_simp; try rfl)) ?_
      simp only [Act.put, List.setIfInBounds_toArray, List.set_cons_succ, List.set_cons_zero, Nat.reduceAdd]
      refine Many.lex_want (by rfl) (rd (v := .slice (some ⟨g, o, none⟩) m cap) (fun q => by (go_simp; (try rfl); (try (intro hneg; omega))))) ?_
      simp only [Act.put, List.setIfInBounds_toArray, List.set_cons_succ, List.set_cons_zero, Nat.reduceAdd]
      refine Many.lex_want (by rfl) (rd (v := .int .i64 k) (fun q => by (go_simp; (try rfl); (try (intro hneg; omega))))) ?_
      simp only [Act.put, List.setIfInBounds_toArray, List.set_cons_succ, List.set_cons_zero, Nat.reduceAdd]
      refine Many.lex_want (by rfl) (rd (v := .pointer (some ⟨g, o + k * 2, none⟩)) (fun q => by (go_simp; (try rfl); (try (intro hneg; omega))))) ?_
      simp only [Act.put, List.setIfInBounds_toArray, List.set_cons_succ, List.set_cons_zero, Nat.reduceAdd]
      refine Many.lex_want (by rfl) (rd (v := .pointer (some ⟨g, o + k * 2 + 1, none⟩)) (fun q => by (go_simp; (try rfl); (try (intro hneg; omega))))) ?_
      simp only [Act.put, List.setIfInBounds_toArray, List.set_cons_succ, List.set_cons_zero, Nat.reduceAdd]
      refine Many.lex_want (by rfl) (rd (v := .int .i64 y) (fun q => by (go_simp; (try rfl); (try (intro hneg; omega))))) ?_
      simp only [Act.put, List.setIfInBounds_toArray, List.set_cons_succ, List.set_cons_zero, Nat.reduceAdd]
      refine Many.lex_want (by rfl) (rd (v := .int .i64 N) (fun q => by (go_simp; (try rfl); (try (intro hneg; omega))))) ?_
      simp only [Act.put, List.setIfInBounds_toArray, List.set_cons_succ, List.set_cons_zero, Nat.reduceAdd]
      refine Many.lex_want (by rfl) (Many.tr_call (v := .int .i64 b) (f := 53) (args := #[.int .i64 y, .int .i64 N]) (fun w' => ∃ q, w' = wr.drewN q) (fun _ _ h => h) (fun s0 W h => (qb W).mono (fun e W' hw' => ⟨hw'.1, by rw [hw'.2]; exact h⟩)) (fun W h => by obtain ⟨q, rfl⟩ := h; go_simp; try rfl)) ?_
      simp only [Act.put, List.setIfInBounds_toArray, List.set_cons_succ, List.set_cons_zero, Nat.reduceAdd]
      refine Many.lex_want (by rfl) (rd (v := .int .i64 a) (fun q => by (go_simp; (try rfl); (try (intro hneg; omega))))) ?_
      simp only [Act.put, List.setIfInBounds_toArray, List.set_cons_succ, List.set_cons_zero, Nat.reduceAdd]
      refine Many.lex_want (by rfl) (rd (v := .int .i64 b) (fun q => by (go_simp; (try rfl); (try (intro hneg; omega))))) ?_
      simp only [Act.put, List.setIfInBounds_toArray, List.set_cons_succ, List.set_cons_zero, Nat.reduceAdd]
      refine Many.lex_nil fun s9 W2 hs9 hS9 => ?_
      have hI2 : Keep (W2.ownsRow w.heap.size 63 2 (.slice A2 E.length d2) E.length (enc2 E) ∧ Below w.heap.size w W2) := by
        obtain ⟨q, rfl⟩ := hS9
        exact ⟨hIk.out.1, below_dn' hIk.out.2 q⟩
      clear hS9 hs9 hIk c0 c1 qa qb
      obtain ⟨ev, hev⟩ : ∃ ev, ((a : Int) == (b : Int)) = ev := ⟨_, rfl⟩
      have hev2 : decide (a = b) = ev := by rw [← hev, Bool.eq_iff_iff, decide_eq_true_iff, beq_iff_eq]; omega
      rw [hev2] at hpush
      clear hev2
      rcases Nat.lt_or_ge b a with hba | hba
      · have x1 : (b : Int) < (a : Int) := by omega
        have x2 : ¬ (a : Int) < (b : Int) := by omega
        have x3 : ¬ (a : Int) ≤ (b : Int) := by omega
        have x4 : (b : Int) ≤ (a : Int) := by omega
        have hmn : min a b = b := by omega
        have hmx2 : max a b = a := by omega
        rw [hmn, hmx2] at hpush
        clear hmn hmx2
        go_wp2
        obtain ⟨W3, hW3⟩ : ∃ W3, W2.alloc (.cells #[.int .i64 b, .int .i64 a] 63) = W3 := ⟨_, rfl⟩
        have b3 : Below W2.heap.size W2 W3 := by rw [← hW3]; exact (Below.refl _ _).alloc (Nat.le_refl _) _
        have h10 : W3.heap[W2.heap.size]? = some (.cells #[.int .i64 b, .int .i64 a] 63 (0, 0)) := by rw [← hW3]; exact World.alloc_heap_new W2 _
        have hrow3 := row_after hI2.out.1 b3
        obtain ⟨A9, c9, hA9, hce⟩ := own_pairs hrow3
        have hEl := hTk.le
        have e9 : A9 = A2 := by injection hA9 with h1 h2 h3; exact h1.symm
        subst e9
        have c0 : W3.cell? ⟨W2.heap.size, 0, none⟩ = some (.int .i64 b) := by simp [World.cell?, h10]
        have c1 : W3.cell? ⟨W2.heap.size, 1, none⟩ = some (.int .i64 a) := by simp [World.cell?, h10]
        have hcek := Keep.mk hce
        have h3k := Keep.mk (And.intro hrow3 (hI2.out.2.trans (b3.mono hI2.out.2.size)))
        try rw [hW3]
        clear hW3 b3 h10 hrow3 hA9 hce hI2
        go_loopw [12, 11] (fun j kn wi => (∃ l : Nat, l ≤ E.length ∧ j = .int .i64 l ∧ kn = .bool (ev || (E.take l).any fun q => decide (q = (((b : Nat) : Int), ((a : Nat) : Int))))) ∧ ∃ nn, wi = W3.drewN nn) (fun j _ _ => E.length - (intOf j).toNat)
        case atStart => exact ⟨⟨0, by omega, rfl, by simp⟩, 0, rfl⟩
        case round =>
          obtain ⟨⟨l, hll, rfl, rfl⟩, nn, rfl⟩ := hrel
          have hw2 : IntKind.i64.wrap ((l : Int) + 1) = (l : Int) + 1 := IntWalk.i64_in _ (by omega)
          obtain ⟨kn, hkn⟩ : ∃ kn, (ev || (E.take l).any fun q => decide (q = (((b : Nat) : Int), ((a : Nat) : Int)))) = kn := ⟨_, rfl⟩
          rw [hkn]
          by_cases hl2 : l < E.length
          · have hl2' : (l : Int) < (E.length : Int) := by omega
            obtain ⟨g2, rfl, d0, d1⟩ := hcek.out l hl2
            have hnx : (ev || (E.take (l + 1)).any fun q => decide (q = (((b : Nat) : Int), ((a : Nat) : Int)))) = (kn || decide (E.getD l (0, 0) = (((b : Nat) : Int), ((a : Nat) : Int)))) := by
              rw [takep hl2, List.any_append, ← Bool.or_assoc, hkn]; simp
            generalize E.getD l (0, 0) = p2 at d0 d1 hnx
            obtain ⟨u, v⟩ := p2
            simp only at d0 d1
            have heq := eq63 u v b a
            obtain ⟨dz, hdz⟩ : ∃ dz, decide ((u, v) = (((b : Nat) : Int), ((a : Nat) : Int))) = dz := ⟨_, rfl⟩
            rw [hdz] at heq hnx
            have nl : ¬ (l : Int) < 0 := by omega
            have hnxk := Keep.mk hnx
            clear hnx hkn hdz
            cases kn with
            | true =>
              clear heq d0 d1
              go_wp2
              refine (wpIn_wide (n := 0)).1 ?_
              refine Many.region_many (Cq (W3.drewN nn)) hmx (by kernel_rfl) (fun s s' W' h hc => hc) (fun s hs => ⟨1, rfl⟩) ?_
              refine Many.lex_want (by rfl) (rd (v := .bool true) (fun q => by (go_simp; (try rfl); (try (intro hneg; omega))))) ?_
              simp only [Act.put, List.setIfInBounds_toArray, List.set_cons_succ, List.set_cons_zero, Nat.reduceAdd]
              refine Many.lex_want (by rfl) (rd (v := .bool true) (fun q => by (go_simp; (try rfl); (try (intro hneg; omega))))) ?_
              simp only [Act.put, List.setIfInBounds_toArray, List.set_cons_succ, List.set_cons_zero, Nat.reduceAdd]
              refine lex_skip (by rfl) Cq.keep ?_
              simp only [Act.put, List.setIfInBounds_toArray, List.set_cons_succ, List.set_cons_zero, Nat.reduceAdd]
              refine lex_skip (by rfl) Cq.keep ?_
              simp only [Act.put, List.setIfInBounds_toArray, List.set_cons_succ, List.set_cons_zero, Nat.reduceAdd]
              refine lex_skip (by rfl) Cq.keep ?_
              simp only [Act.put, List.setIfInBounds_toArray, List.set_cons_succ, List.set_cons_zero, Nat.reduceAdd]
              refine lex_skip (by rfl) Cq.keep ?_
              simp only [Act.put, List.setIfInBounds_toArray, List.set_cons_succ, List.set_cons_zero, Nat.reduceAdd]
              refine lex_skip (by rfl) Cq.keep ?_
              simp only [Act.put, List.setIfInBounds_toArray, List.set_cons_succ, List.set_cons_zero, Nat.reduceAdd]
              refine lex_skip (by rfl) Cq.keep ?_
              simp only [Act.put, List.setIfInBounds_toArray, List.set_cons_succ, List.set_cons_zero, Nat.reduceAdd]
              refine Many.lex_want (by rfl) (rd (v := .bool true) (fun q => by (go_simp; (try rfl); (try (intro hneg; omega))))) ?_
              simp only [Act.put, List.setIfInBounds_toArray, List.set_cons_succ, List.set_cons_zero, Nat.reduceAdd]
              refine Many.lex_want (by rfl) (rd (v := .bool true) (fun q => by (go_simp; (try rfl); (try (intro hneg; omega))))) ?_
              simp only [Act.put, List.setIfInBounds_toArray, List.set_cons_succ, List.set_cons_zero, Nat.reduceAdd]
              refine Many.lex_nil fun s9 W4 hs9 hS9 => ?_
              obtain ⟨q, rfl⟩ := hS9
              go_wp2
              exact ⟨⟨⟨l + 1, by omega, by go_num, by rw [hnxk.out]; rfl⟩, nn + q, by first | rfl | exact drewN_add _ _ _⟩, by simp [intOf]; omega⟩
            | false =>
              go_wp2
              refine (wpIn_wide (n := 0)).1 ?_
              refine Many.region_many (Cq (W3.drewN nn)) hmx (by kernel_rfl) (fun s s' W' h hc => hc) (fun s hs => ⟨1, rfl⟩) ?_
              refine Many.lex_want (by rfl) (rd (v := .bool false) (fun q => by (go_simp; (try rfl); (try (intro hneg; omega))))) ?_
              simp only [Act.put, List.setIfInBounds_toArray, List.set_cons_succ, List.set_cons_zero, Nat.reduceAdd]
              refine Many.lex_want (by rfl) (rd (v := .bool false) (fun q => by (go_simp; (try rfl); (try (intro hneg; omega))))) ?_
              simp only [Act.put, List.setIfInBounds_toArray, List.set_cons_succ, List.set_cons_zero, Nat.reduceAdd]
              refine Many.lex_want (by rfl) (rd (v := .slice (some ⟨g2, 0, none⟩) E.length d2) (fun q => by (go_simp; (try rfl); (try (intro hneg; omega))))) ?_
              simp only [Act.put, List.setIfInBounds_toArray, List.set_cons_succ, List.set_cons_zero, Nat.reduceAdd]
              refine Many.lex_want (by rfl) (rd (v := .int .i64 l) (fun q => by (go_simp; (try rfl); (try (intro hneg; omega))))) ?_
              simp only [Act.put, List.setIfInBounds_toArray, List.set_cons_succ, List.set_cons_zero, Nat.reduceAdd]
              refine Many.lex_want (by rfl) (rd (v := .pointer (some ⟨g2, l * 2, none⟩)) (fun q => by (go_simp; (try rfl); (try (intro hneg; omega))))) ?_
              simp only [Act.put, List.setIfInBounds_toArray, List.set_cons_succ, List.set_cons_zero, Nat.reduceAdd]
              refine Many.lex_want (by rfl) (rd (v := .agg #[.int .i64 u, .int .i64 v]) (fun q => by (go_simp; (try rfl); (try (intro hneg; omega))))) ?_
              simp only [Act.put, List.setIfInBounds_toArray, List.set_cons_succ, List.set_cons_zero, Nat.reduceAdd]
              refine Many.lex_want (by rfl) (rd (v := .agg #[.int .i64 b, .int .i64 a]) (fun q => by (go_simp; (try rfl); (try (intro hneg; omega))))) ?_
              simp only [Act.put, List.setIfInBounds_toArray, List.set_cons_succ, List.set_cons_zero, Nat.reduceAdd]
              refine Many.lex_want (by rfl) (rd (v := .bool dz) (fun q => by (go_simp; (try rfl); (try (intro hneg; omega))))) ?_
              simp only [Act.put, List.setIfInBounds_toArray, List.set_cons_succ, List.set_cons_zero, Nat.reduceAdd]
              refine Many.lex_want (by rfl) (rd (v := .bool dz) (fun q => by (go_simp; (try rfl); (try (intro hneg; omega))))) ?_
              simp only [Act.put, List.setIfInBounds_toArray, List.set_cons_succ, List.set_cons_zero, Nat.reduceAdd]
              refine Many.lex_want (by rfl) (rd (v := .bool dz) (fun q => by (go_simp; (try rfl); (try (intro hneg; omega))))) ?_
              simp only [Act.put, List.setIfInBounds_toArray, List.set_cons_succ, List.set_cons_zero, Nat.reduceAdd]
              refine Many.lex_nil fun s9 W4 hs9 hS9 => ?_
              obtain ⟨q, rfl⟩ := hS9
              go_wp2
              exact ⟨⟨⟨l + 1, by omega, by go_num, by rw [hnxk.out]; rfl⟩, nn + q, by first | rfl | exact drewN_add _ _ _⟩, by simp [intOf]; omega⟩
          · obtain rfl : l = E.length := by omega
            have hl2' : ¬ (E.length : Int) < (E.length : Int) := by omega
            rw [List.take_length] at hkn
            rw [hkn] at hpush
            obtain ⟨W4, hW4⟩ : ∃ W4, W3.drewN nn = W4 := ⟨_, rfl⟩
            have c0 : W4.cell? ⟨W2.heap.size, 0, none⟩ = some (.int .i64 b) := by rw [← hW4]; exact c0
            have c1 : W4.cell? ⟨W2.heap.size, 1, none⟩ = some (.int .i64 a) := by rw [← hW4]; exact c1
            have hNk : Keep (W4.ownsRow w.heap.size 63 2 (.slice A9 E.length d2) E.length (enc2 E) ∧ Below w.heap.size w W4) := ⟨by rw [← hW4]; exact h3k.out.1, by rw [← hW4]; exact below_dn' h3k.out.2 nn⟩
            rw [hW4]
            clear hkn h3k hW4
            cases kn with
            | true =>
              simp only [if_true] at hpush
              clear c0 c1
              go_wp2
              exact ⟨⟨k + 1, by omega, by go_num, by rw [hpush]; exact hNk, _, _, by rw [hpush]⟩, by simp [intOf]; omega⟩
            | false =>
              simp only [Bool.false_eq_true, if_false] at hpush
              have hln : (tameE N (ps.take (k + 1))).length = E.length + 1 := by rw [hpush, List.length_append]; rfl
              have hen : enc2 (tameE N (ps.take (k + 1))) = enc2 E ++ [.int .i64 b, .int .i64 a] := by rw [hpush, enc2_push]
              have hpk := Keep.mk (And.intro hln hen)
              clear hpush hln hen
              go_wp2_with (at_builtin; refine wpList_append_own_at _ rfl _ _ 22 rfl w.heap.size 63 i0 (.agg #[.int .i64 0, .int .i64 0]) 2 16 ty22 hi0 hz0 hz1 hz2 rfl (by decide) _ E.length (enc2 E) rfl (hNk.out.1.alloc _) ⟨W4.heap.size, 0, none⟩ 1 1 [.int .i64 b, .int .i64 a] rfl rfl (cell_two_new _ _ _ _) (two_one _ _) (by unfold maxLen; omega) (by omega) (by have := hNk.out.2.size; simp; omega) ?_; intro v' w1 hown hgrow _ _
                           obtain ⟨g', cap', rfl⟩ := ownsRow_succ hown
                           have h10k := Keep.mk (And.intro hown hgrow)
                           clear hown hgrow)
              have hb10 : Below w.heap.size w w1 := hNk.out.2.trans (Below.grown ((Below.refl _ W4).alloc (by have := hNk.out.2.size; omega) _) h10k.out.2 (by have := hNk.out.2.size; simp; omega) (fun j hj => by
                have hj' : (Value.slice A9 E.length d2).ownBlock = some j := hj
                exact (hNk.out.1.lt j hj').1))
              exact ⟨⟨k + 1, by omega, by go_num, ⟨by rw [hpk.out.1, hpk.out.2]; exact h10k.out.1, hb10⟩, _, _, by rw [hpk.out.1]⟩, by simp [intOf]; omega⟩
      rcases Nat.lt_or_ge a b with hab | hab
      · have x1 : (a : Int) < (b : Int) := by omega
        have x2 : ¬ (b : Int) < (a : Int) := by omega
        have x3 : (a : Int) ≤ (b : Int) := by omega
        have x4 : ¬ (b : Int) ≤ (a : Int) := by omega
        have hmn : min a b = a := by omega
        have hmx2 : max a b = b := by omega
        rw [hmn, hmx2] at hpush
        clear hmn hmx2
        go_wp2
        obtain ⟨W3, hW3⟩ : ∃ W3, W2.alloc (.cells #[.int .i64 a, .int .i64 b] 63) = W3 := ⟨_, rfl⟩
        have b3 : Below W2.heap.size W2 W3 := by rw [← hW3]; exact (Below.refl _ _).alloc (Nat.le_refl _) _
        have h10 : W3.heap[W2.heap.size]? = some (.cells #[.int .i64 a, .int .i64 b] 63 (0, 0)) := by rw [← hW3]; exact World.alloc_heap_new W2 _
        have hrow3 := row_after hI2.out.1 b3
        obtain ⟨A9, c9, hA9, hce⟩ := own_pairs hrow3
        have hEl := hTk.le
        have e9 : A9 = A2 := by injection hA9 with h1 h2 h3; exact h1.symm
        subst e9
        have c0 : W3.cell? ⟨W2.heap.size, 0, none⟩ = some (.int .i64 a) := by simp [World.cell?, h10]
        have c1 : W3.cell? ⟨W2.heap.size, 1, none⟩ = some (.int .i64 b) := by simp [World.cell?, h10]
        have hcek := Keep.mk hce
        have h3k := Keep.mk (And.intro hrow3 (hI2.out.2.trans (b3.mono hI2.out.2.size)))
        try rw [hW3]
        clear hW3 b3 h10 hrow3 hA9 hce hI2
        go_loopw [12, 11] (fun j kn wi => (∃ l : Nat, l ≤ E.length ∧ j = .int .i64 l ∧ kn = .bool (ev || (E.take l).any fun q => decide (q = (((a : Nat) : Int), ((b : Nat) : Int))))) ∧ ∃ nn, wi = W3.drewN nn) (fun j _ _ => E.length - (intOf j).toNat)
        case atStart => exact ⟨⟨0, by omega, rfl, by simp⟩, 0, rfl⟩
        case round =>
          obtain ⟨⟨l, hll, rfl, rfl⟩, nn, rfl⟩ := hrel
          have hw2 : IntKind.i64.wrap ((l : Int) + 1) = (l : Int) + 1 := IntWalk.i64_in _ (by omega)
          obtain ⟨kn, hkn⟩ : ∃ kn, (ev || (E.take l).any fun q => decide (q = (((a : Nat) : Int), ((b : Nat) : Int)))) = kn := ⟨_, rfl⟩
          rw [hkn]
          by_cases hl2 : l < E.length
          · have hl2' : (l : Int) < (E.length : Int) := by omega
            obtain ⟨g2, rfl, d0, d1⟩ := hcek.out l hl2
            have hnx : (ev || (E.take (l + 1)).any fun q => decide (q = (((a : Nat) : Int), ((b : Nat) : Int)))) = (kn || decide (E.getD l (0, 0) = (((a : Nat) : Int), ((b : Nat) : Int)))) := by
              rw [takep hl2, List.any_append, ← Bool.or_assoc, hkn]; simp
            generalize E.getD l (0, 0) = p2 at d0 d1 hnx
            obtain ⟨u, v⟩ := p2
            simp only at d0 d1
            have heq := eq63 u v a b
            obtain ⟨dz, hdz⟩ : ∃ dz, decide ((u, v) = (((a : Nat) : Int), ((b : Nat) : Int))) = dz := ⟨_, rfl⟩
            rw [hdz] at heq hnx
            have nl : ¬ (l : Int) < 0 := by omega
            have hnxk := Keep.mk hnx
            clear hnx hkn hdz
            cases kn with
            | true =>
              clear heq d0 d1
              go_wp2
              refine (wpIn_wide (n := 0)).1 ?_
              refine Many.region_many (Cq (W3.drewN nn)) hmx (by kernel_rfl) (fun s s' W' h hc => hc) (fun s hs => ⟨1, rfl⟩) ?_
              refine Many.lex_want (by rfl) (rd (v := .bool true) (fun q => by (go_simp; (try rfl); (try (intro hneg; omega))))) ?_
              simp only [Act.put, List.setIfInBounds_toArray, List.set_cons_succ, List.set_cons_zero, Nat.reduceAdd]
              refine Many.lex_want (by rfl) (rd (v := .bool true) (fun q => by (go_simp; (try rfl); (try (intro hneg; omega))))) ?_
              simp only [Act.put, List.setIfInBounds_toArray, List.set_cons_succ, List.set_cons_zero, Nat.reduceAdd]
              refine lex_skip (by rfl) Cq.keep ?_
              simp only [Act.put, List.setIfInBounds_toArray, List.set_cons_succ, List.set_cons_zero, Nat.reduceAdd]
              refine lex_skip (by rfl) Cq.keep ?_
              simp only [Act.put, List.setIfInBounds_toArray, List.set_cons_succ, List.set_cons_zero, Nat.reduceAdd]
              refine lex_skip (by rfl) Cq.keep ?_
              simp only [Act.put, List.setIfInBounds_toArray, List.set_cons_succ, List.set_cons_zero, Nat.reduceAdd]
              refine lex_skip (by rfl) Cq.keep ?_
              simp only [Act.put, List.setIfInBounds_toArray, List.set_cons_succ, List.set_cons_zero, Nat.reduceAdd]
              refine lex_skip (by rfl) Cq.keep ?_
              simp only [Act.put, List.setIfInBounds_toArray, List.set_cons_succ, List.set_cons_zero, Nat.reduceAdd]
              refine lex_skip (by rfl) Cq.keep ?_
              simp only [Act.put, List.setIfInBounds_toArray, List.set_cons_succ, List.set_cons_zero, Nat.reduceAdd]
              refine Many.lex_want (by rfl) (rd (v := .bool true) (fun q => by (go_simp; (try rfl); (try (intro hneg; omega))))) ?_
              simp only [Act.put, List.setIfInBounds_toArray, List.set_cons_succ, List.set_cons_zero, Nat.reduceAdd]
              refine Many.lex_want (by rfl) (rd (v := .bool true) (fun q => by (go_simp; (try rfl); (try (intro hneg; omega))))) ?_
              simp only [Act.put, List.setIfInBounds_toArray, List.set_cons_succ, List.set_cons_zero, Nat.reduceAdd]
              refine Many.lex_nil fun s9 W4 hs9 hS9 => ?_
              obtain ⟨q, rfl⟩ := hS9
              go_wp2
              exact ⟨⟨⟨l + 1, by omega, by go_num, by rw [hnxk.out]; rfl⟩, nn + q, by first | rfl | exact drewN_add _ _ _⟩, by simp [intOf]; omega⟩
            | false =>
              go_wp2
              refine (wpIn_wide (n := 0)).1 ?_
              refine Many.region_many (Cq (W3.drewN nn)) hmx (by kernel_rfl) (fun s s' W' h hc => hc) (fun s hs => ⟨1, rfl⟩) ?_
              refine Many.lex_want (by rfl) (rd (v := .bool false) (fun q => by (go_simp; (try rfl); (try (intro hneg; omega))))) ?_
              simp only [Act.put, List.setIfInBounds_toArray, List.set_cons_succ, List.set_cons_zero, Nat.reduceAdd]
              refine Many.lex_want (by rfl) (rd (v := .bool false) (fun q => by (go_simp; (try rfl); (try (intro hneg; omega))))) ?_
              simp only [Act.put, List.setIfInBounds_toArray, List.set_cons_succ, List.set_cons_zero, Nat.reduceAdd]
              refine Many.lex_want (by rfl) (rd (v := .slice (some ⟨g2, 0, none⟩) E.length d2) (fun q => by (go_simp; (try rfl); (try (intro hneg; omega))))) ?_
              simp only [Act.put, List.setIfInBounds_toArray, List.set_cons_succ, List.set_cons_zero, Nat.reduceAdd]
              refine Many.lex_want (by rfl) (rd (v := .int .i64 l) (fun q => by (go_simp; (try rfl); (try (intro hneg; omega))))) ?_
              simp only [Act.put, List.setIfInBounds_toArray, List.set_cons_succ, List.set_cons_zero, Nat.reduceAdd]
              refine Many.lex_want (by rfl) (rd (v := .pointer (some ⟨g2, l * 2, none⟩)) (fun q => by (go_simp; (try rfl); (try (intro hneg; omega))))) ?_
              simp only [Act.put, List.setIfInBounds_toArray, List.set_cons_succ, List.set_cons_zero, Nat.reduceAdd]
              refine Many.lex_want (by rfl) (rd (v := .agg #[.int .i64 u, .int .i64 v]) (fun q => by (go_simp; (try rfl); (try (intro hneg; omega))))) ?_
              simp only [Act.put, List.setIfInBounds_toArray, List.set_cons_succ, List.set_cons_zero, Nat.reduceAdd]
              refine Many.lex_want (by rfl) (rd (v := .agg #[.int .i64 a, .int .i64 b]) (fun q => by (go_simp; (try rfl); (try (intro hneg; omega))))) ?_
              simp only [Act.put, List.setIfInBounds_toArray, List.set_cons_succ, List.set_cons_zero, Nat.reduceAdd]
              refine Many.lex_want (by rfl) (rd (v := .bool dz) (fun q => by (go_simp; (try rfl); (try (intro hneg; omega))))) ?_
              simp only [Act.put, List.setIfInBounds_toArray, List.set_cons_succ, List.set_cons_zero, Nat.reduceAdd]
              refine Many.lex_want (by rfl) (rd (v := .bool dz) (fun q => by (go_simp; (try rfl); (try (intro hneg; omega))))) ?_
              simp only [Act.put, List.setIfInBounds_toArray, List.set_cons_succ, List.set_cons_zero, Nat.reduceAdd]
              refine Many.lex_want (by rfl) (rd (v := .bool dz) (fun q => by (go_simp; (try rfl); (try (intro hneg; omega))))) ?_
              simp only [Act.put, List.setIfInBounds_toArray, List.set_cons_succ, List.set_cons_zero, Nat.reduceAdd]
              refine Many.lex_nil fun s9 W4 hs9 hS9 => ?_
              obtain ⟨q, rfl⟩ := hS9
              go_wp2
              exact ⟨⟨⟨l + 1, by omega, by go_num, by rw [hnxk.out]; rfl⟩, nn + q, by first | rfl | exact drewN_add _ _ _⟩, by simp [intOf]; omega⟩
          · obtain rfl : l = E.length := by omega
            have hl2' : ¬ (E.length : Int) < (E.length : Int) := by omega
            rw [List.take_length] at hkn
            rw [hkn] at hpush
            obtain ⟨W4, hW4⟩ : ∃ W4, W3.drewN nn = W4 := ⟨_, rfl⟩
            have c0 : W4.cell? ⟨W2.heap.size, 0, none⟩ = some (.int .i64 a) := by rw [← hW4]; exact c0
            have c1 : W4.cell? ⟨W2.heap.size, 1, none⟩ = some (.int .i64 b) := by rw [← hW4]; exact c1
            have hNk : Keep (W4.ownsRow w.heap.size 63 2 (.slice A9 E.length d2) E.length (enc2 E) ∧ Below w.heap.size w W4) := ⟨by rw [← hW4]; exact h3k.out.1, by rw [← hW4]; exact below_dn' h3k.out.2 nn⟩
            rw [hW4]
            clear hkn h3k hW4
            cases kn with
            | true =>
              simp only [if_true] at hpush
              clear c0 c1
              go_wp2
              exact ⟨⟨k + 1, by omega, by go_num, by rw [hpush]; exact hNk, _, _, by rw [hpush]⟩, by simp [intOf]; omega⟩
            | false =>
              simp only [Bool.false_eq_true, if_false] at hpush
              have hln : (tameE N (ps.take (k + 1))).length = E.length + 1 := by rw [hpush, List.length_append]; rfl
              have hen : enc2 (tameE N (ps.take (k + 1))) = enc2 E ++ [.int .i64 a, .int .i64 b] := by rw [hpush, enc2_push]
              have hpk := Keep.mk (And.intro hln hen)
              clear hpush hln hen
              go_wp2_with (at_builtin; refine wpList_append_own_at _ rfl _ _ 22 rfl w.heap.size 63 i0 (.agg #[.int .i64 0, .int .i64 0]) 2 16 ty22 hi0 hz0 hz1 hz2 rfl (by decide) _ E.length (enc2 E) rfl (hNk.out.1.alloc _) ⟨W4.heap.size, 0, none⟩ 1 1 [.int .i64 a, .int .i64 b] rfl rfl (cell_two_new _ _ _ _) (two_one _ _) (by unfold maxLen; omega) (by omega) (by have := hNk.out.2.size; simp; omega) ?_; intro v' w1 hown hgrow _ _
                           obtain ⟨g', cap', rfl⟩ := ownsRow_succ hown
                           have h10k := Keep.mk (And.intro hown hgrow)
                           clear hown hgrow)
              have hb10 : Below w.heap.size w w1 := hNk.out.2.trans (Below.grown ((Below.refl _ W4).alloc (by have := hNk.out.2.size; omega) _) h10k.out.2 (by have := hNk.out.2.size; simp; omega) (fun j hj => by
                have hj' : (Value.slice A9 E.length d2).ownBlock = some j := hj
                exact (hNk.out.1.lt j hj').1))
              exact ⟨⟨k + 1, by omega, by go_num, ⟨by rw [hpk.out.1, hpk.out.2]; exact h10k.out.1, hb10⟩, _, _, by rw [hpk.out.1]⟩, by simp [intOf]; omega⟩
      · have x1 : ¬ (a : Int) < (b : Int) := by omega
        have x2 : ¬ (b : Int) < (a : Int) := by omega
        have x3 : (a : Int) ≤ (b : Int) := by omega
        have x4 : (b : Int) ≤ (a : Int) := by omega
        have hmn : min a b = a := by omega
        have hmx2 : max a b = a := by omega
        rw [hmn, hmx2] at hpush
        clear hmn hmx2
        go_wp2
        obtain ⟨W3, hW3⟩ : ∃ W3, W2.alloc (.cells #[.int .i64 a, .int .i64 a] 63) = W3 := ⟨_, rfl⟩
        have b3 : Below W2.heap.size W2 W3 := by rw [← hW3]; exact (Below.refl _ _).alloc (Nat.le_refl _) _
        have h10 : W3.heap[W2.heap.size]? = some (.cells #[.int .i64 a, .int .i64 a] 63 (0, 0)) := by rw [← hW3]; exact World.alloc_heap_new W2 _
        have hrow3 := row_after hI2.out.1 b3
        obtain ⟨A9, c9, hA9, hce⟩ := own_pairs hrow3
        have hEl := hTk.le
        have e9 : A9 = A2 := by injection hA9 with h1 h2 h3; exact h1.symm
        subst e9
        have c0 : W3.cell? ⟨W2.heap.size, 0, none⟩ = some (.int .i64 a) := by simp [World.cell?, h10]
        have c1 : W3.cell? ⟨W2.heap.size, 1, none⟩ = some (.int .i64 a) := by simp [World.cell?, h10]
        have hcek := Keep.mk hce
        have h3k := Keep.mk (And.intro hrow3 (hI2.out.2.trans (b3.mono hI2.out.2.size)))
        try rw [hW3]
        clear hW3 b3 h10 hrow3 hA9 hce hI2
        go_loopw [12, 11] (fun j kn wi => (∃ l : Nat, l ≤ E.length ∧ j = .int .i64 l ∧ kn = .bool (ev || (E.take l).any fun q => decide (q = (((a : Nat) : Int), ((a : Nat) : Int))))) ∧ ∃ nn, wi = W3.drewN nn) (fun j _ _ => E.length - (intOf j).toNat)
        case atStart => exact ⟨⟨0, by omega, rfl, by simp⟩, 0, rfl⟩
        case round =>
          obtain ⟨⟨l, hll, rfl, rfl⟩, nn, rfl⟩ := hrel
          have hw2 : IntKind.i64.wrap ((l : Int) + 1) = (l : Int) + 1 := IntWalk.i64_in _ (by omega)
          obtain ⟨kn, hkn⟩ : ∃ kn, (ev || (E.take l).any fun q => decide (q = (((a : Nat) : Int), ((a : Nat) : Int)))) = kn := ⟨_, rfl⟩
          rw [hkn]
          by_cases hl2 : l < E.length
          · have hl2' : (l : Int) < (E.length : Int) := by omega
            obtain ⟨g2, rfl, d0, d1⟩ := hcek.out l hl2
            have hnx : (ev || (E.take (l + 1)).any fun q => decide (q = (((a : Nat) : Int), ((a : Nat) : Int)))) = (kn || decide (E.getD l (0, 0) = (((a : Nat) : Int), ((a : Nat) : Int)))) := by
              rw [takep hl2, List.any_append, ← Bool.or_assoc, hkn]; simp
            generalize E.getD l (0, 0) = p2 at d0 d1 hnx
            obtain ⟨u, v⟩ := p2
            simp only at d0 d1
            have heq := eq63 u v a a
            obtain ⟨dz, hdz⟩ : ∃ dz, decide ((u, v) = (((a : Nat) : Int), ((a : Nat) : Int))) = dz := ⟨_, rfl⟩
            rw [hdz] at heq hnx
            have nl : ¬ (l : Int) < 0 := by omega
            have hnxk := Keep.mk hnx
            clear hnx hkn hdz
            cases kn with
            | true =>
              clear heq d0 d1
              go_wp2
              refine (wpIn_wide (n := 0)).1 ?_
              refine Many.region_many (Cq (W3.drewN nn)) hmx (by kernel_rfl) (fun s s' W' h hc => hc) (fun s hs => ⟨1, rfl⟩) ?_
              refine Many.lex_want (by rfl) (rd (v := .bool true) (fun q => by (go_simp; (try rfl); (try (intro hneg; omega))))) ?_
              simp only [Act.put, List.setIfInBounds_toArray, List.set_cons_succ, List.set_cons_zero, Nat.reduceAdd]
              refine Many.lex_want (by rfl) (rd (v := .bool true) (fun q => by (go_simp; (try rfl); (try (intro hneg; omega))))) ?_
              simp only [Act.put, List.setIfInBounds_toArray, List.set_cons_succ, List.set_cons_zero, Nat.reduceAdd]
              refine lex_skip (by rfl) Cq.keep ?_
              simp only [Act.put, List.setIfInBounds_toArray, List.set_cons_succ, List.set_cons_zero, Nat.reduceAdd]
              refine lex_skip (by rfl) Cq.keep ?_
              simp only [Act.put, List.setIfInBounds_toArray, List.set_cons_succ, List.set_cons_zero, Nat.reduceAdd]
              refine lex_skip (by rfl) Cq.keep ?_
              simp only [Act.put, List.setIfInBounds_toArray, List.set_cons_succ, List.set_cons_zero, Nat.reduceAdd]
              refine lex_skip (by rfl) Cq.keep ?_
              simp only [Act.put, List.setIfInBounds_toArray, List.set_cons_succ, List.set_cons_zero, Nat.reduceAdd]
              refine lex_skip (by rfl) Cq.keep ?_
              simp only [Act.put, List.setIfInBounds_toArray, List.set_cons_succ, List.set_cons_zero, Nat.reduceAdd]
              refine lex_skip (by rfl) Cq.keep ?_
              simp only [Act.put, List.setIfInBounds_toArray, List.set_cons_succ, List.set_cons_zero, Nat.reduceAdd]
              refine Many.lex_want (by rfl) (rd (v := .bool true) (fun q => by (go_simp; (try rfl); (try (intro hneg; omega))))) ?_
              simp only [Act.put, List.setIfInBounds_toArray, List.set_cons_succ, List.set_cons_zero, Nat.reduceAdd]
              refine Many.lex_want (by rfl) (rd (v := .bool true) (fun q => by (go_simp; (try rfl); (try (intro hneg; omega))))) ?_
              simp only [Act.put, List.setIfInBounds_toArray, List.set_cons_succ, List.set_cons_zero, Nat.reduceAdd]
              refine Many.lex_nil fun s9 W4 hs9 hS9 => ?_
              obtain ⟨q, rfl⟩ := hS9
              go_wp2
              exact ⟨⟨⟨l + 1, by omega, by go_num, by rw [hnxk.out]; rfl⟩, nn + q, by first | rfl | exact drewN_add _ _ _⟩, by simp [intOf]; omega⟩
            | false =>
              go_wp2
              refine (wpIn_wide (n := 0)).1 ?_
              refine Many.region_many (Cq (W3.drewN nn)) hmx (by kernel_rfl) (fun s s' W' h hc => hc) (fun s hs => ⟨1, rfl⟩) ?_
              refine Many.lex_want (by rfl) (rd (v := .bool false) (fun q => by (go_simp; (try rfl); (try (intro hneg; omega))))) ?_
              simp only [Act.put, List.setIfInBounds_toArray, List.set_cons_succ, List.set_cons_zero, Nat.reduceAdd]
              refine Many.lex_want (by rfl) (rd (v := .bool false) (fun q => by (go_simp; (try rfl); (try (intro hneg; omega))))) ?_
              simp only [Act.put, List.setIfInBounds_toArray, List.set_cons_succ, List.set_cons_zero, Nat.reduceAdd]
              refine Many.lex_want (by rfl) (rd (v := .slice (some ⟨g2, 0, none⟩) E.length d2) (fun q => by (go_simp; (try rfl); (try (intro hneg; omega))))) ?_
              simp only [Act.put, List.setIfInBounds_toArray, List.set_cons_succ, List.set_cons_zero, Nat.reduceAdd]
              refine Many.lex_want (by rfl) (rd (v := .int .i64 l) (fun q => by (go_simp; (try rfl); (try (intro hneg; omega))))) ?_
              simp only [Act.put, List.setIfInBounds_toArray, List.set_cons_succ, List.set_cons_zero, Nat.reduceAdd]
              refine Many.lex_want (by rfl) (rd (v := .pointer (some ⟨g2, l * 2, none⟩)) (fun q => by (go_simp; (try rfl); (try (intro hneg; omega))))) ?_
              simp only [Act.put, List.setIfInBounds_toArray, List.set_cons_succ, List.set_cons_zero, Nat.reduceAdd]
              refine Many.lex_want (by rfl) (rd (v := .agg #[.int .i64 u, .int .i64 v]) (fun q => by (go_simp; (try rfl); (try (intro hneg; omega))))) ?_
              simp only [Act.put, List.setIfInBounds_toArray, List.set_cons_succ, List.set_cons_zero, Nat.reduceAdd]
              refine Many.lex_want (by rfl) (rd (v := .agg #[.int .i64 a, .int .i64 a]) (fun q => by (go_simp; (try rfl); (try (intro hneg; omega))))) ?_
              simp only [Act.put, List.setIfInBounds_toArray, List.set_cons_succ, List.set_cons_zero, Nat.reduceAdd]
              refine Many.lex_want (by rfl) (rd (v := .bool dz) (fun q => by (go_simp; (try rfl); (try (intro hneg; omega))))) ?_
              simp only [Act.put, List.setIfInBounds_toArray, List.set_cons_succ, List.set_cons_zero, Nat.reduceAdd]
              refine Many.lex_want (by rfl) (rd (v := .bool dz) (fun q => by (go_simp; (try rfl); (try (intro hneg; omega))))) ?_
              simp only [Act.put, List.setIfInBounds_toArray, List.set_cons_succ, List.set_cons_zero, Nat.reduceAdd]
              refine Many.lex_want (by rfl) (rd (v := .bool dz) (fun q => by (go_simp; (try rfl); (try (intro hneg; omega))))) ?_
              simp only [Act.put, List.setIfInBounds_toArray, List.set_cons_succ, List.set_cons_zero, Nat.reduceAdd]
              refine Many.lex_nil fun s9 W4 hs9 hS9 => ?_
              obtain ⟨q, rfl⟩ := hS9
              go_wp2
              exact ⟨⟨⟨l + 1, by omega, by go_num, by rw [hnxk.out]; rfl⟩, nn + q, by first | rfl | exact drewN_add _ _ _⟩, by simp [intOf]; omega⟩
          · obtain rfl : l = E.length := by omega
            have hl2' : ¬ (E.length : Int) < (E.length : Int) := by omega
            rw [List.take_length] at hkn
            rw [hkn] at hpush
            obtain ⟨W4, hW4⟩ : ∃ W4, W3.drewN nn = W4 := ⟨_, rfl⟩
            have c0 : W4.cell? ⟨W2.heap.size, 0, none⟩ = some (.int .i64 a) := by rw [← hW4]; exact c0
            have c1 : W4.cell? ⟨W2.heap.size, 1, none⟩ = some (.int .i64 a) := by rw [← hW4]; exact c1
            have hNk : Keep (W4.ownsRow w.heap.size 63 2 (.slice A9 E.length d2) E.length (enc2 E) ∧ Below w.heap.size w W4) := ⟨by rw [← hW4]; exact h3k.out.1, by rw [← hW4]; exact below_dn' h3k.out.2 nn⟩
            rw [hW4]
            clear hkn h3k hW4
            cases kn with
            | true =>
              simp only [if_true] at hpush
              clear c0 c1
              go_wp2
              exact ⟨⟨k + 1, by omega, by go_num, by rw [hpush]; exact hNk, _, _, by rw [hpush]⟩, by simp [intOf]; omega⟩
            | false =>
              simp only [Bool.false_eq_true, if_false] at hpush
              have hln : (tameE N (ps.take (k + 1))).length = E.length + 1 := by rw [hpush, List.length_append]; rfl
              have hen : enc2 (tameE N (ps.take (k + 1))) = enc2 E ++ [.int .i64 a, .int .i64 a] := by rw [hpush, enc2_push]
              have hpk := Keep.mk (And.intro hln hen)
              clear hpush hln hen
              go_wp2_with (at_builtin; refine wpList_append_own_at _ rfl _ _ 22 rfl w.heap.size 63 i0 (.agg #[.int .i64 0, .int .i64 0]) 2 16 ty22 hi0 hz0 hz1 hz2 rfl (by decide) _ E.length (enc2 E) rfl (hNk.out.1.alloc _) ⟨W4.heap.size, 0, none⟩ 1 1 [.int .i64 a, .int .i64 a] rfl rfl (cell_two_new _ _ _ _) (two_one _ _) (by unfold maxLen; omega) (by omega) (by have := hNk.out.2.size; simp; omega) ?_; intro v' w1 hown hgrow _ _
                           obtain ⟨g', cap', rfl⟩ := ownsRow_succ hown
                           have h10k := Keep.mk (And.intro hown hgrow)
                           clear hown hgrow)
              have hb10 : Below w.heap.size w w1 := hNk.out.2.trans (Below.grown ((Below.refl _ W4).alloc (by have := hNk.out.2.size; omega) _) h10k.out.2 (by have := hNk.out.2.size; simp; omega) (fun j hj => by
                have hj' : (Value.slice A9 E.length d2).ownBlock = some j := hj
                exact (hNk.out.1.lt j hj').1))
              exact ⟨⟨k + 1, by omega, by go_num, ⟨by rw [hpk.out.1, hpk.out.2]; exact h10k.out.1, hb10⟩, _, _, by rw [hpk.out.1]⟩, by simp [intOf]; omega⟩
    · obtain rfl : k = m := by omega
      have hlt' : ¬ (k : Int) < (k : Int) := by omega
      rw [show ps.take k = ps by rw [← hm.out]; simp] at hI ⊢
      go_wp2
      refine bodyPost_ret (v := .tuple #[.int .i64 N, .slice A2 (tameE N ps).length d2]) (by simp [results, Try.results50, go_sem]) rfl ?_
      exact ⟨_, rfl, hI.out.1, hI.out.2⟩
end Go.Proofs.Yteekigpdiklppaa
