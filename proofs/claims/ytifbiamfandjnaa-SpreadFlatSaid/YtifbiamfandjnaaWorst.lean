import Derived.Test.YtifbiamfandjnaaEverGives
import Derived.Deep.RegionWith
import Derived.Laws.ResultCell
set_option linter.unusedSimpArgs false
set_option linter.unusedVariables false
namespace Go.Proofs.Ytifbiamfandjnaa
open Go Go.Proofs Go.RowKit Go.Seq
attribute [local go_sem] Oper.semAt_some
def wStep (a : Wit × Int) (x : Wit) : Wit × Int := if a.2 < (x.2.2.natAbs : Int) then (x, (x.2.2.natAbs : Int)) else a
def worstOf (xs : List Wit) : Wit × Int := xs.foldl wStep ((0, false, 0), -1)
theorem worstOf_snoc (pre : List Wit) (x : Wit) : worstOf (pre ++ [x]) = wStep (worstOf pre) x := by simp [worstOf]
def witV (x : Wit) : Value := .agg #[.int .i64 0, .int .i64 (x.1 : Nat), .bool x.2.1]
theorem worstOf_le {xs : List Wit} {B : Int} (hB : 0 ≤ B) (h : ∀ x ∈ xs, (x.2.2.natAbs : Int) ≤ B) : -1 ≤ (worstOf xs).2 ∧ (worstOf xs).2 ≤ B := by
  have : ∀ (l : List Wit) (a : Wit × Int), (∀ x ∈ l, (x.2.2.natAbs : Int) ≤ B) → -1 ≤ a.2 ∧ a.2 ≤ B → -1 ≤ (l.foldl wStep a).2 ∧ (l.foldl wStep a).2 ≤ B := by
    intro l
    induction l with
    | nil => intro a _ h; exact h
    | cons x l ih =>
      intro a hl ha
      refine ih _ (fun y hy => hl y (List.mem_cons_of_mem _ hy)) ?_
      have := hl x (List.mem_cons_self ..)
      unfold wStep
      split
      · exact ⟨by simp only; omega, this⟩
      · exact ha
  exact this xs _ h ⟨by simp, by simp only; omega⟩
theorem heap_set {W : World} {k i : Nat} {cs : Array Value} {t : TypeId} {fr : Nat × Nat} (h : W.heap[k]? = some (.cells cs t fr)) (v : Value) :
    (W.setCell ⟨k, i, none⟩ v).heap[k]? = some (.cells (cs.setIfInBounds i v) t fr) := by
  obtain ⟨hlt, hk⟩ := Array.getElem?_eq_some_iff.1 h
  show (W.heap.modify k _)[k]? = _
  rw [Array.getElem?_eq_getElem (by rw [Array.size_modify]; exact hlt), Array.getElem_modify_self, hk]
  simp
theorem put_other {W : World} {k : Nat} {X : Option Obj} (h : W.heap[k]? = X) {b i : Nat} (hne : k ≠ b) (v : Value) : (W.setCell ⟨b, i, none⟩ v).heap[k]? = X := (Below.heap_setCell W ⟨b, i, none⟩ v k hne).trans h
set_option maxHeartbeats 1000000 in
set_option maxRecDepth 100000 in
theorem worst_any {gf : Nat} {lb : Array Value} {xs : List Wit} {R : World → Prop} {w : World} (eg : ∀ args w, (callFunc gf args).run Try.prog w = .ok (.enter gf args) w)
    (hb : ∀ x ∈ xs, x.2.2.natAbs ≤ 1000000000) (hgives : ∀ W1, Gives Try.prog gf lb encW xs R W1) (hR : ∀ W, Below w.heap.size w W → R W) :
    Calls Try.prog 53 #[.func (.func gf) #[] lb] w fun e w' => e = .returned (.tuple #[witV (worstOf xs).1, .int .i64 (worstOf xs).2]) ∧ Below w.heap.size w w' := by
  have hmx : Try.prog.follows .mixedOrders = true := by kernel_rfl
  refine (callsIn_wide (n := 0)).1 ?_
  refine callsIn_of_wp_marks Try.func53 rfl trivial ?_ rfl
  simp only [Try.ntmps53, List.size_toArray, List.length_cons, List.length_nil, Nat.reduceAdd, Nat.reduceSub, Array.replicate_succ, Array.replicate_zero, List.push_toArray, List.append_toArray, List.nil_append, List.cons_append]
  gi_wp2
  obtain ⟨w0, hw0⟩ : ∃ w0, ((w.alloc (.cells #[.int .i64 0, .int .i64 0, .bool false] 86)).alloc (.cells #[.int .i64 0, .int .i64 0, .bool false] 86)).alloc (.cells #[.int .i64 (-1)] 3) = w0 := ⟨_, rfl⟩
  have hs0 : w0.heap.size = w.heap.size + 3 := by rw [← hw0]; simp
  have hb0 : Below w.heap.size w w0 := by rw [← hw0]; exact (((Below.refl _ w).alloc (Nat.le_refl _) _).alloc (by simp) _).alloc (by simp; omega) _
  have h20 : w0.heap[w.heap.size]? = some (.cells #[.int .i64 0, .int .i64 0, .bool false] 86 (0, 0)) := by
    rw [← hw0, Below.heap_alloc _ _ _ (by simp; omega), Below.heap_alloc _ _ _ (by simp)]; exact World.alloc_heap_new w _
  have h21 : w0.heap[w.heap.size + 1]? = some (.cells #[.int .i64 0, .int .i64 0, .bool false] 86 (0, 0)) := by
    rw [← hw0, Below.heap_alloc _ _ _ (by simp)]
    have := World.alloc_heap_new (w.alloc (.cells #[.int .i64 0, .int .i64 0, .bool false] 86)) (.cells #[.int .i64 0, .int .i64 0, .bool false] 86)
    simpa using this
  have h22 : w0.heap[w.heap.size + 1 + 1]? = some (.cells #[.int .i64 (-1)] 3 (0, 0)) := by
    rw [← hw0]
    have := World.alloc_heap_new ((w.alloc (.cells #[.int .i64 0, .int .i64 0, .bool false] 86)).alloc (.cells #[.int .i64 0, .int .i64 0, .bool false] 86)) (.cells #[.int .i64 (-1)] 3)
    simpa using this
  rw [hw0]
  clear hw0
  refine range_gives (gf := gf) (lb := lb) rfl eg (encs := encW) (xs := xs) (R := R) (fun x => rfl) (fun W1' _ _ => hgives W1')
    (fun pre W => W.heap[w.heap.size]? = some (.cells #[.int .i64 0, .int .i64 0, .bool false] 86 (0, 0)) ∧ W.heap[w.heap.size + 1]? = some (.cells #[.int .i64 0, .int .i64 ((worstOf pre).1.1 : Nat), .bool (worstOf pre).1.2.1] 86 (0, 0)) ∧
      W.heap[w.heap.size + 1 + 1]? = some (.cells #[.int .i64 (worstOf pre).2] 3 (0, 0)) ∧ Below w.heap.size w W)
    ?_ (fun pre W h => hR W h.2.2.2) ⟨h20, h21, h22, hb0⟩
    (fun x a' W => ∃ Bx, w0.heap.size + 2 ≤ Bx ∧ W.heap[Bx]? = some (.cells #[.int .i64 0, .int .i64 (x.1 : Nat), .bool x.2.1] 86 (0, 0)) ∧
        ∃ v10 v11, a' = { tmps := #[.func (.func gf) #[] lb, undef, .pointer (some ⟨w.heap.size, 0, none⟩), .int .i64 0, .pointer (some ⟨w.heap.size + 1, 0, none⟩), .pointer (some ⟨w.heap.size + 1 + 1, 0, none⟩), .pointer (some ⟨Bx, 0, none⟩), .int .i64 x.2.2, undef, .func (.func gf) #[] lb, v10, v11, undef, undef, undef, undef, undef, undef, undef, undef, undef], defers := [] })
    ?_ ?assign ?body ?done
  · rintro pre W W' ⟨k1, k2, k3, k4⟩ hb
    exact ⟨(hb.block _ (by omega)).trans k1, (hb.block _ (by omega)).trans k2, (hb.block _ (by omega)).trans k3, k4.trans (hb.mono (by omega))⟩
  · rintro x a' W W' ⟨Bx, k1, k2, v10, v11, rfl⟩ hf
    exact ⟨Bx, k1, (hf.2 Bx k1 (Array.getElem?_eq_some_iff.1 k2).1).trans k2, v10, v11, rfl⟩
  case assign =>
    intro l2 pre x W K hi hsz2 hK
    simp only [encW]
    gi_wp2
    exact hK _ _ ((Below.refl _ W).alloc (Nat.le_refl _) _) ⟨W.heap.size, by omega, World.alloc_heap_new W _, _, _, rfl⟩
  case body =>
    rintro l2 pre x a' W ⟨k1, k2, k3, k4⟩ ⟨Bx, hBx, hbx, v10, v11, rfl⟩ hsz2 ⟨post, hpost⟩
    have hxb := hb x (by rw [hpost]; simp)
    have c0 : W.cell? ⟨Bx, 0, none⟩ = some (.int .i64 0) := by simp [World.cell?, hbx]
    have c1 : W.cell? ⟨Bx, 1, none⟩ = some (.int .i64 (x.1 : Nat)) := by simp [World.cell?, hbx]
    have c2 : W.cell? ⟨Bx, 2, none⟩ = some (.bool x.2.1) := by simp [World.cell?, hbx]
    have d0 : W.cell? ⟨w.heap.size + 1, 0, none⟩ = some (.int .i64 0) := by simp [World.cell?, k2]
    have d1 : W.cell? ⟨w.heap.size + 1, 1, none⟩ = some (.int .i64 ((worstOf pre).1.1 : Nat)) := by simp [World.cell?, k2]
    have d2 : W.cell? ⟨w.heap.size + 1, 2, none⟩ = some (.bool (worstOf pre).1.2.1) := by simp [World.cell?, k2]
    have f0 : W.frozen? ⟨w.heap.size + 1, 0, none⟩ = false := by simp [World.frozen?, k2]
    have f1 : W.frozen? ⟨w.heap.size + 1, 1, none⟩ = false := by simp [World.frozen?, k2]
    have f2 : W.frozen? ⟨w.heap.size + 1, 2, none⟩ = false := by simp [World.frozen?, k2]
    have m0 : W.cell? ⟨w.heap.size + 1 + 1, 0, none⟩ = some (.int .i64 (worstOf pre).2) := by simp [World.cell?, k3]
    have m1 : W.frozen? ⟨w.heap.size + 1 + 1, 0, none⟩ = false := by simp [World.frozen?, k3]
    gi_wp2_with (refine ⟨trivial, rfl, ?_⟩; gi_at_call 79; refine (CallsIn.inRound l2 (callsIn_wide.2 (absolute_any x.2.2 (by omega) (by omega) _))).mono ?_; rintro e w' ⟨rfl, rfl⟩)
    · rename_i hgt
      have e : worstOf (pre ++ [x]) = (x, (x.2.2.natAbs : Int)) := by rw [worstOf_snoc]; unfold wStep; rw [if_pos hgt]
      rw [e]
      refine ⟨⟨?_, ?_, ?_, ?_⟩, ?_, rfl, rfl⟩
      · exact put_other (put_other (put_other (put_other k1 (by omega) _) (by omega) _) (by omega) _) (by omega) _
      · exact put_other (heap_set (heap_set (heap_set k2 _) _) _) (by omega) _
      · exact heap_set (put_other (put_other (put_other k3 (by omega) _) (by omega) _) (by omega) _) _
      · exact (((k4.setCell (p := ⟨w.heap.size + 1, 0, none⟩) (by simp) _).setCell (p := ⟨w.heap.size + 1, 1, none⟩) (by simp) _).setCell (p := ⟨w.heap.size + 1, 2, none⟩) (by simp) _).setCell (p := ⟨w.heap.size + 1 + 1, 0, none⟩) (by simp; omega) _
      · exact ((((From.refl _ _).setCell (p := ⟨w.heap.size + 1, 0, none⟩) (by simp) _).setCell (p := ⟨w.heap.size + 1, 1, none⟩) (by simp) _).setCell (p := ⟨w.heap.size + 1, 2, none⟩) (by simp) _).setCell (p := ⟨w.heap.size + 1 + 1, 0, none⟩) (by simp) _
    · rename_i hgt
      have e : worstOf (pre ++ [x]) = worstOf pre := by rw [worstOf_snoc]; unfold wStep; rw [if_neg (by omega)]
      rw [e]
      exact ⟨⟨⟨rfl, rfl⟩, rfl⟩, From.refl _ _⟩
  case done =>
    intro W ⟨k1, k2, k3, k4⟩ hszW hD
    have d0 : W.cell? ⟨w.heap.size + 1, 0, none⟩ = some (.int .i64 0) := by simp [World.cell?, k2]
    have d1 : W.cell? ⟨w.heap.size + 1, 1, none⟩ = some (.int .i64 ((worstOf xs).1.1 : Nat)) := by simp [World.cell?, k2]
    have d2 : W.cell? ⟨w.heap.size + 1, 2, none⟩ = some (.bool (worstOf xs).1.2.1) := by simp [World.cell?, k2]
    have f0 : W.frozen? ⟨w.heap.size, 0, none⟩ = false := by simp [World.frozen?, k1]
    have f1 : W.frozen? ⟨w.heap.size, 1, none⟩ = false := by simp [World.frozen?, k1]
    have f2 : W.frozen? ⟨w.heap.size, 2, none⟩ = false := by simp [World.frozen?, k1]
    have g0 : W.cell? ⟨w.heap.size, 0, none⟩ = some (.int .i64 0) := by simp [World.cell?, k1]
    have g1 : W.cell? ⟨w.heap.size, 1, none⟩ = some (.int .i64 0) := by simp [World.cell?, k1]
    have g2 : W.cell? ⟨w.heap.size, 2, none⟩ = some (.bool false) := by simp [World.cell?, k1]
    have m0 : W.cell? ⟨w.heap.size + 1 + 1, 0, none⟩ = some (.int .i64 (worstOf xs).2) := by simp [World.cell?, k3]
    gi_wp2
    obtain ⟨W3, hW3⟩ : ∃ W3, ((W.drew.setCell ⟨w.heap.size, 0, none⟩ (.int .i64 0)).setCell ⟨w.heap.size, 1, none⟩ (.int .i64 ((worstOf xs).1.1 : Nat))).setCell ⟨w.heap.size, 2, none⟩ (.bool (worstOf xs).1.2.1) = W3 := ⟨_, rfl⟩
    have r1 : W3.heap[w.heap.size + 1]? = some (.cells #[.int .i64 0, .int .i64 ((worstOf xs).1.1 : Nat), .bool (worstOf xs).1.2.1] 86 (0, 0)) := by
      rw [← hW3]; exact put_other (put_other (put_other k2 (by omega) _) (by omega) _) (by omega) _
    have r2 : W3.heap[w.heap.size + 1 + 1]? = some (.cells #[.int .i64 (worstOf xs).2] 3 (0, 0)) := by
      rw [← hW3]; exact put_other (put_other (put_other k3 (by omega) _) (by omega) _) (by omega) _
    have r0 : W3.heap[w.heap.size]? = some (.cells #[.int .i64 0, .int .i64 ((worstOf xs).1.1 : Nat), .bool (worstOf xs).1.2.1] 86 (0, 0)) := by
      rw [← hW3]; exact heap_set (heap_set (heap_set k1 _) _) _
    have rD : W3.heap[w0.heap.size]? = some (.deferred (some [])) := by
      rw [← hW3]; exact put_other (put_other (put_other hD (by omega) _) (by omega) _) (by omega) _
    have rB : Below w.heap.size w W3 := by
      rw [← hW3]; exact ((k4.drew.setCell (p := ⟨w.heap.size, 0, none⟩) (Nat.le_refl _) _).setCell (p := ⟨w.heap.size, 1, none⟩) (Nat.le_refl _) _).setCell (p := ⟨w.heap.size, 2, none⟩) (Nat.le_refl _) _
    refine region_pivot 2 (fun b' W' => if b' then W' = W3 else W' = W.drew) hmx (by kernel_rfl) (by simp) (by simp) ?_
    have hCR : ∀ (b' : Bool) W', (if b' = true then W' = W3 else W' = W.drew) → W'.heap[w.heap.size + 1]? = some (.cells #[.int .i64 0, .int .i64 ((worstOf xs).1.1 : Nat), .bool (worstOf xs).1.2.1] 86 (0, 0)) ∧ W'.heap[w.heap.size + 1 + 1]? = some (.cells #[.int .i64 (worstOf xs).2] 3 (0, 0)) := by
      intro b' W' h
      cases b' with
      | true => obtain rfl : W' = W3 := by simpa using h
                exact ⟨r1, r2⟩
      | false => obtain rfl : W' = W.drew := by simpa using h
                 exact ⟨k2, k3⟩
    refine lex_want (by rfl) (tr_read (v := witV (worstOf xs).1) _ (by rfl) hCR (fun W' ⟨q1, q2⟩ => ?_)) ?_
    · have d0 : W'.cell? ⟨w.heap.size + 1, 0, none⟩ = some (.int .i64 0) := by simp [World.cell?, q1]
      have d1 : W'.cell? ⟨w.heap.size + 1, 1, none⟩ = some (.int .i64 ((worstOf xs).1.1 : Nat)) := by simp [World.cell?, q1]
      have d2 : W'.cell? ⟨w.heap.size + 1, 2, none⟩ = some (.bool (worstOf xs).1.2.1) := by simp [World.cell?, q1]
      unfold witV
      go_simp
    simp only [Act.put, List.setIfInBounds_toArray, List.set_cons_succ, List.set_cons_zero, Nat.reduceAdd]
    refine lex_want (by rfl) (tr_read (v := .int .i64 (worstOf xs).2) _ (by rfl) hCR (fun W' ⟨q1, q2⟩ => ?_)) ?_
    · have m0 : W'.cell? ⟨w.heap.size + 1 + 1, 0, none⟩ = some (.int .i64 (worstOf xs).2) := by simp [World.cell?, q2]
      go_simp
    simp only [Act.put, List.setIfInBounds_toArray, List.set_cons_succ, List.set_cons_zero, Nat.reduceAdd]
    refine lex_want (by rfl) (tr_pivot (v := undef) (by rfl) (fun W' h => ?_)) ?_
    · obtain rfl : W' = W.drew := by simpa using h
      unfold witV
      go_simp
      exact ⟨rfl, hW3⟩
    simp only [Act.put, List.setIfInBounds_toArray, List.set_cons_succ, List.set_cons_zero, Nat.reduceAdd]
    refine lex_want (by rfl) (tr_read (v := .int .i64 (worstOf xs).2) _ (by rfl) hCR (fun W' ⟨q1, q2⟩ => ?_)) ?_
    · go_simp
    simp only [Act.put, List.setIfInBounds_toArray, List.set_cons_succ, List.set_cons_zero, Nat.reduceAdd]
    refine lex_nil fun W' h => ?_
    obtain rfl : W' = W3 := by simpa using h
    gi_wp2
    rw [hs0] at rD
    have hlaid : Laid [w.heap.size + 3] (w.heap.size + 3) W' := ⟨by simp, by simp only [List.mem_singleton]; rintro D rfl; exact ⟨Nat.le_refl _, rD⟩⟩
    refine leaves_marks [w.heap.size + 3] W' hlaid fun w' hb' => ⟨.tuple #[witV (worstOf xs).1, .int .i64 (worstOf xs).2], ?_, rfl, rB.trans (hb'.mono (by omega))⟩
    have r0' := (hb'.block w.heap.size (by omega)).trans r0
    have d0 : w'.cell? ⟨w.heap.size, 0, none⟩ = some (.int .i64 0) := by simp [World.cell?, r0']
    have d1 : w'.cell? ⟨w.heap.size, 1, none⟩ = some (.int .i64 ((worstOf xs).1.1 : Nat)) := by simp [World.cell?, r0']
    have d2 : w'.cell? ⟨w.heap.size, 2, none⟩ = some (.bool (worstOf xs).1.2.1) := by simp [World.cell?, r0']
    rw [results_cell_tmp rfl]
    unfold witV
    go_simp
end Go.Proofs.Ytifbiamfandjnaa
