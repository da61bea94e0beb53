import Derived.Test.YtifbiamfandjnaaLineAt
import Derived.Test.YtifbiamfandjnaaSeqC
import Derived.Shelf.Abstract
import Derived.Shelf.RegionOpen
import Derived.OwnWalkIn
import Derived.TacticsInMore
import Derived.LoopNIn
import Derived.LoopIn
set_option linter.unusedSimpArgs false
set_option linter.unusedVariables false
namespace Go.Proofs.Ytifbiamfandjnaa
open Go Go.Proofs Go.RowKit Go.Seq
attribute [local go_sem] Oper.semAt_some
/-- A witness: a place, whether it is the count below, the excess. -/
abbrev Wit := Nat × Bool × Int
def encW (x : Wit) : Array Value := #[.agg #[.int .i64 0, .int .i64 (x.1 : Nat), .bool x.2.1], .int .i64 x.2.2]
def witsAt (N n : Nat) (g : Nat → Nat) (t : Nat) : List Wit := if t = N then [(t, true, exc N n (g t) t)] else [(t, true, exc N n (g t) t), (t, false, exc N n (g (t + 1)) t)]
structure AtR (W : World) (Bt Bl b N n : Nat) (g : Nat → Nat) (t : Nat) : Prop where
  line : LineAt W b N n g
  tb : W.cell? ⟨Bt, 0, none⟩ = some (.int .i64 t)
  lb : W.cell? ⟨Bl, 0, none⟩ = some (.pointer (some ⟨b, 0, none⟩))
set_option maxRecDepth 100000 in
theorem at_gives {b N n t Bt Bl : Nat} {g : Nat → Nat} (ht : t ≤ N) (W1 : World) :
    Gives Try.prog 81 #[.pointer (some ⟨Bt, 0, none⟩), .pointer (some ⟨Bl, 0, none⟩)] encW (witsAt N n g t) (fun W => AtR W Bt Bl b N n g t) W1 := by
  intro l J hJ hR hY h0
  have hmx : Try.prog.follows .mixedOrders = true := by kernel_rfl
  obtain ⟨hL0, _, _⟩ := hR _ _ h0
  have hN := hL0.hN
  have hg1 := hL0.hg t (by omega)
  refine callsIn_of_wp Try.func81 rfl trivial ?_ rfl
  simp only [Try.ntmps81, List.size_toArray, List.length_cons, List.length_nil, Nat.reduceAdd, Nat.reduceSub, Array.replicate_succ, Array.replicate_zero, List.push_toArray, List.append_toArray, List.nil_append, List.cons_append]
  gi_wp2
  obtain ⟨x0, hx0⟩ : ∃ x0 : Wit, x0 = (t, true, exc N n (g t) t) := ⟨_, rfl⟩
  refine region_pivot 12 (fun b' w => J (if b' then [x0] else []) w ∧ W1.heap.size ≤ w.heap.size) hmx (by kernel_rfl) (by simp) ?_ ?_
  · exact ⟨hJ _ _ _ (by simpa using h0) ((Below.refl _ _).drew), Nat.le_refl _⟩
  have hCR : ∀ b' w, (J (if b' = true then [x0] else []) w ∧ W1.heap.size ≤ w.heap.size) → AtR w Bt Bl b N n g t := fun b' w h => hR _ _ h.1
  have step : ∀ {k : Nat} {o : Oper} {a : Act} {v : Value}, (k == 12) = false → (∀ w, AtR w Bt Bl b N n g t → (execOp a.eval o).run Try.prog w = .ok (.value v) w) → Tr Try.prog (fun b' w => J (if b' then [x0] else []) w ∧ W1.heap.size ≤ w.heap.size) 12 k o a v :=
    fun hk h => tr_read (fun W => AtR W Bt Bl b N n g t) hk hCR h
  iterate 11
    (refine lex_want (by rfl) (step (by rfl) (fun w ⟨⟨hs, hz, hat, _, _, _⟩, htb, hlb⟩ => (by
        have hc1 := hat t (by omega)
        go_simp
        try first | rfl | (rw [if_pos (by omega)])))) ?_
     simp only [Act.put, List.setIfInBounds_toArray, List.set_cons_succ, List.set_cons_zero, Nat.reduceAdd])
  refine lex_want (by rfl) (tr_call (v := .int .i64 (exc N n (g t) t)) (f := 62) (args := #[.pointer (some ⟨b, 0, none⟩), .int .i64 (g t), .int .i64 t]) (fun W => AtR W Bt Bl b N n g t) (by rfl) hCR
    (fun b' w m h => ⟨hJ _ _ _ h.1 (below_drewN (Below.refl _ _) m), h.2⟩) (fun w ⟨hl, _, _⟩ => excess_any hl hg1 (by omega)) (fun w => (by go_simp))) ?_
  simp only [Act.put, List.setIfInBounds_toArray, List.set_cons_succ, List.set_cons_zero, Nat.reduceAdd]
  refine lex_want (by rfl) (tr_yield (v := .bool true) (l := l) (args := encW (t, true, exc N n (g t) t)) (by rfl) (fun w hC => ?_) (fun w => (by unfold encW; go_simp))) ?_
  · refine (hY [] (t, true, exc N n (g t) t) w hC.1 hC.2 ?_).mono fun e w' h => ⟨h.1, by rw [hx0]; exact h.2.1, Nat.le_trans hC.2 h.2.2.1.1⟩
    unfold witsAt
    by_cases htN : t = N
    · rw [if_pos htN]; exact ⟨[], rfl⟩
    · rw [if_neg htN]; exact ⟨_, rfl⟩
  simp only [Act.put, List.setIfInBounds_toArray, List.set_cons_succ, List.set_cons_zero, Nat.reduceAdd]
  obtain ⟨c, hc⟩ : ∃ c : Bool, ((t : Int) == (N : Int)) = c := ⟨_, rfl⟩
  iterate 9
    (refine lex_want (by rfl) (step (by rfl) (fun w ⟨⟨hs, hz, hat, _, _, _⟩, htb, hlb⟩ => (by
        go_simp
        try rfl))) ?_
     simp only [Act.put, List.setIfInBounds_toArray, List.set_cons_succ, List.set_cons_zero, Nat.reduceAdd])
  refine lex_nil fun w' ⟨hJ', hs'⟩ => ?_
  gi_wp2
  · -- the end of the line
    rename_i hct
    have htN : t = N := by
      have : ((t : Int) == (N : Int)) = true := by rw [hc]; first | exact hct | simpa using hct
      have := eq_of_beq this
      omega
    refine bodyPost_ret (results_none rfl _ _ _) rfl ?_
    refine ⟨⟨_, rfl⟩, ?_, hs'⟩
    unfold witsAt
    rw [if_pos htN, ← hx0]
    exact hJ'
  · rename_i hct
    have htN : t < N := by
      have : ((t : Int) == (N : Int)) = false := by rw [hc]; first | exact hct | simpa using hct
      have : ¬ (t : Int) = (N : Int) := by simpa using this
      omega
    have hg2 := hL0.hg (t + 1) (by omega)
    have hW : witsAt N n g t = [x0, (t, false, exc N n (g (t + 1)) t)] := by unfold witsAt; rw [if_neg (by omega), hx0]
    obtain ⟨x1, hx1⟩ : ∃ x1 : Wit, x1 = (t, false, exc N n (g (t + 1)) t) := ⟨_, rfl⟩
    clear hc hct
    refine region_pivot 13 (fun b' w => J (if b' then [x0, x1] else [x0]) w ∧ W1.heap.size ≤ w.heap.size) hmx (by kernel_rfl) (by simp) ?_ ?_
    · exact ⟨hJ _ _ _ (by simpa using hJ') ((Below.refl _ _).drew), hs'⟩
    have hCR2 : ∀ b' w, (J (if b' = true then [x0, x1] else [x0]) w ∧ W1.heap.size ≤ w.heap.size) → AtR w Bt Bl b N n g t := fun b' w h => hR _ _ h.1
    have step2 : ∀ {k : Nat} {o : Oper} {a : Act} {v : Value}, (k == 13) = false → (∀ w, AtR w Bt Bl b N n g t → (execOp a.eval o).run Try.prog w = .ok (.value v) w) → Tr Try.prog (fun b' w => J (if b' then [x0, x1] else [x0]) w ∧ W1.heap.size ≤ w.heap.size) 13 k o a v :=
      fun hk h => tr_read (fun W => AtR W Bt Bl b N n g t) hk hCR2 h
    have hw1 : IntKind.i64.wrap ((t : Int) + 1) = (t : Int) + 1 := IntWalk.i64_in _ (by omega)
    iterate 6
      (refine lex_want (by rfl) (step2 (by rfl) (fun w ⟨⟨hs, hz, hat, _, _, _⟩, htb, hlb⟩ => (by
          go_simp
          try first | rfl | (rw [if_pos (by omega)])))) ?_
       simp only [Act.put, List.setIfInBounds_toArray, List.set_cons_succ, List.set_cons_zero, Nat.reduceAdd])
    have hT : ((t : Int) + 1).toNat = t + 1 := by omega
    refine lex_want (by rfl) (step2 (v := .int .i64 ((t : Int) + 1)) (by rfl) (fun w ⟨⟨hs, hz, hat, _, _, _⟩, htb, hlb⟩ => (by go_simp; try simp [hw1]))) ?_
    simp only [Act.put, List.setIfInBounds_toArray, List.set_cons_succ, List.set_cons_zero, Nat.reduceAdd]
    iterate 2
      (refine lex_want (by rfl) (step2 (by rfl) (fun w ⟨⟨hs, hz, hat, _, _, _⟩, htb, hlb⟩ => (by
          go_simp
          try rfl))) ?_
       simp only [Act.put, List.setIfInBounds_toArray, List.set_cons_succ, List.set_cons_zero, Nat.reduceAdd])
    refine lex_want (by rfl) (step2 (v := .pointer (some ⟨b, 2 + (t + 1), none⟩)) (by rfl) (fun w ⟨⟨hs, hz, hat, _, _, _⟩, htb, hlb⟩ => (by
          go_simp
          intro h
          have := h (by omega)
          omega))) ?_
    simp only [Act.put, List.setIfInBounds_toArray, List.set_cons_succ, List.set_cons_zero, Nat.reduceAdd]
    refine lex_want (by rfl) (step2 (v := .int .i64 (g (t + 1))) (by rfl) (fun w ⟨⟨hs, hz, hat, _, _, _⟩, htb, hlb⟩ => (by
          have hc1 := hat (t + 1) (by omega)
          go_simp))) ?_
    simp only [Act.put, List.setIfInBounds_toArray, List.set_cons_succ, List.set_cons_zero, Nat.reduceAdd]
    refine lex_want (by rfl) (step2 (by rfl) (fun w ⟨⟨hs, hz, hat, _, _, _⟩, htb, hlb⟩ => (by
          go_simp
          try rfl))) ?_
    simp only [Act.put, List.setIfInBounds_toArray, List.set_cons_succ, List.set_cons_zero, Nat.reduceAdd]
    refine lex_want (by rfl) (tr_call (v := .int .i64 (exc N n (g (t + 1)) t)) (f := 62) (args := #[.pointer (some ⟨b, 0, none⟩), .int .i64 (g (t + 1)), .int .i64 t]) (fun W => AtR W Bt Bl b N n g t) (by rfl) hCR2
      (fun b' w m h => ⟨hJ _ _ _ h.1 (below_drewN (Below.refl _ _) m), h.2⟩) (fun w ⟨hl, _, _⟩ => excess_any hl hg2 (by omega)) (fun w => (by go_simp))) ?_
    simp only [Act.put, List.setIfInBounds_toArray, List.set_cons_succ, List.set_cons_zero, Nat.reduceAdd]
    refine lex_want (by rfl) (tr_yield (v := .bool true) (l := l) (args := encW (t, false, exc N n (g (t + 1)) t)) (by rfl) (fun w hC => ?_) (fun w => (by unfold encW; go_simp))) ?_
    · exact (hY [x0] (t, false, exc N n (g (t + 1)) t) w hC.1 hC.2 ⟨[], hW⟩).mono fun e w' h => ⟨h.1, by rw [hx1]; exact h.2.1, Nat.le_trans hC.2 h.2.2.1.1⟩
    simp only [Act.put, List.setIfInBounds_toArray, List.set_cons_succ, List.set_cons_zero, Nat.reduceAdd]
    refine lex_nil fun w2 ⟨hJ2, hs2⟩ => ?_
    gi_wp2
    go_end0
    refine ⟨⟨_, rfl⟩, ?_, hs2⟩
    rw [hW, ← hx1]
    exact hJ2
end Go.Proofs.Ytifbiamfandjnaa
