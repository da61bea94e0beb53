/- Drawn regions with two floating variables; calls whose contract asks for the world. -/
import Derived.Test.YtbocmbhinjkjlaaAwFit
set_option linter.unusedSimpArgs false
set_option linter.unusedVariables false
namespace Go.Proofs.Ytbocmbhinjkjlaa
open Go Go.Proofs Go.RowKit Go.Seq
theorem upd_off {t : Nat → Bool} {i j : Nat} (h : i ≠ j) : Manyd.upd t i j = t j := upd_ne (by simp [h])
theorem upd_on {t : Nat → Bool} {i : Nat} : Manyd.upd t i i = true := by simp [Manyd.upd]
/-- Two variables float: made by operations A and B, stored into by C and D. -/
structure FvI (W0 : World) (A B C D : Nat) (m0 m1 o0 o1 : Int) (t : Nat → Bool) (p7 p8 : Nat) (W : World) : Prop where
  bw : Below W0.heap.size W0 W
  a7 : t A = true → W0.heap.size ≤ p7 ∧ BlkAt W p7 (if t C = true then #[.int .i64 m0, .int .i64 m1] else #[.int .i64 0, .int .i64 0]) 37
  a8 : t B = true → W0.heap.size ≤ p8 ∧ BlkAt W p8 (if t D = true then #[.int .i64 o0, .int .i64 o1] else #[.int .i64 0, .int .i64 0]) 37
  ne : t A = true → t B = true → p7 ≠ p8
  d8 : t C = true → t A = true
  d9 : t D = true → t B = true
structure Ix4 (A B C D : Nat) : Prop where
  ab : A ≠ B
  ac : A ≠ C
  ad : A ≠ D
  bc : B ≠ C
  bd : B ≠ D
  cd : C ≠ D
section
variable {W0 W W' : World} {A B C D : Nat} {m0 m1 o0 o1 : Int} {t : Nat → Bool} {p7 p8 : Nat}
theorem FvI.start (hA : t A = false) (hB : t B = false) (hC : t C = false) (hD : t D = false) : FvI W0 A B C D m0 m1 o0 o1 t p7 p8 W0.drew :=
  ⟨(Below.refl _ _).drew, (fun e => by rw [hA] at e; cases e), (fun e => by rw [hB] at e; cases e), (fun e => by rw [hA] at e; cases e), (fun e => by rw [hC] at e; cases e), (fun e => by rw [hD] at e; cases e)⟩
theorem FvI.keep {i : Nat} (h6 : i ≠ A) (h7 : i ≠ B) (h8 : i ≠ C) (h9 : i ≠ D) (h : FvI W0 A B C D m0 m1 o0 o1 t p7 p8 W) : FvI W0 A B C D m0 m1 o0 o1 (Manyd.upd t i) p7 p8 W :=
  ⟨h.bw, by rw [upd_off h6, upd_off h8]; exact h.a7, by rw [upd_off h7, upd_off h9]; exact h.a8, by rw [upd_off h6, upd_off h7]; exact h.ne, by rw [upd_off h8, upd_off h6]; exact h.d8, by rw [upd_off h9, upd_off h7]; exact h.d9⟩
theorem FvI.after (h : FvI W0 A B C D m0 m1 o0 o1 t p7 p8 W) (hb : Below W.heap.size W W') : FvI W0 A B C D m0 m1 o0 o1 t p7 p8 W' :=
  ⟨h.bw.trans (hb.mono h.bw.size), fun k => ⟨(h.a7 k).1, (h.a7 k).2.after hb⟩, fun k => ⟨(h.a8 k).1, (h.a8 k).2.after hb⟩, h.ne, h.d8, h.d9⟩
theorem FvI.alloc7 (x : Ix4 A B C D) (h : FvI W0 A B C D m0 m1 o0 o1 t p7 p8 W) (hun : t A = false) : FvI W0 A B C D m0 m1 o0 o1 (Manyd.upd t A) W.heap.size p8 (W.alloc (.cells #[.int .i64 0, .int .i64 0] 37)) := by
  have n8 : t C = false := by
    cases e : t C with
    | false => rfl
    | true => rw [h.d8 e] at hun; cases hun
  have h' := h.after ((Below.refl _ _).alloc (Nat.le_refl _) (.cells #[.int .i64 0, .int .i64 0] 37))
  refine ⟨h'.bw, fun _ => ⟨h.bw.size, ?_⟩, ?_, ?_, ?_, ?_⟩
  · rw [upd_off x.ac, n8]; exact BlkAt.new _ _ _
  · rw [upd_off x.ab, upd_off x.ad]; exact h'.a8
  · rw [upd_off (t := t) (i := A) (j := B) x.ab]
    intro _ k e
    have := (h.a8 k).2.lt
    omega
  · rw [upd_off x.ac, n8]; intro e; cases e
  · rw [upd_off x.ad, upd_off x.ab]; exact h.d9
theorem FvI.alloc8 (x : Ix4 A B C D) (h : FvI W0 A B C D m0 m1 o0 o1 t p7 p8 W) (hun : t B = false) : FvI W0 A B C D m0 m1 o0 o1 (Manyd.upd t B) p7 W.heap.size (W.alloc (.cells #[.int .i64 0, .int .i64 0] 37)) := by
  have n9 : t D = false := by
    cases e : t D with
    | false => rfl
    | true => rw [h.d9 e] at hun; cases hun
  have h' := h.after ((Below.refl _ _).alloc (Nat.le_refl _) (.cells #[.int .i64 0, .int .i64 0] 37))
  refine ⟨h'.bw, ?_, fun _ => ⟨h.bw.size, ?_⟩, ?_, ?_, ?_⟩
  · rw [upd_off x.ab.symm, upd_off x.bc]; exact h'.a7
  · rw [upd_off x.bd, n9]; exact BlkAt.new _ _ _
  · rw [upd_off (t := t) (i := B) (j := A) x.ab.symm]
    intro k _ e
    have := (h.a7 k).2.lt
    omega
  · rw [upd_off x.bc, upd_off x.ab.symm]; exact h.d8
  · rw [upd_off x.bd, n9]; intro e; cases e
theorem FvI.own7 (h : FvI W0 A B C D m0 m1 o0 o1 t p7 p8 W) (k : t A = true) (hun : t C = false) : Own2 W p7 (.int .i64 0) (.int .i64 0) := by
  have := (h.a7 k).2
  rw [hun] at this
  exact Own2.of this
theorem FvI.own8 (h : FvI W0 A B C D m0 m1 o0 o1 t p7 p8 W) (k : t B = true) (hun : t D = false) : Own2 W p8 (.int .i64 0) (.int .i64 0) := by
  have := (h.a8 k).2
  rw [hun] at this
  exact Own2.of this
theorem FvI.set7 (x : Ix4 A B C D) (h : FvI W0 A B C D m0 m1 o0 o1 t p7 p8 W) (k : t A = true) (hun : t C = false) : FvI W0 A B C D m0 m1 o0 o1 (Manyd.upd t C) p7 p8 ((W.setCell ⟨p7, 0, none⟩ (.int .i64 m0)).setCell ⟨p7, 1, none⟩ (.int .i64 m1)) := by
  obtain ⟨g7, b7⟩ := h.a7 k
  rw [hun] at b7
  refine ⟨(h.bw.setCell (p := ⟨p7, 0, none⟩) g7 _).setCell (p := ⟨p7, 1, none⟩) g7 _, fun _ => ⟨g7, ?_⟩, ?_, ?_, fun _ => ?_, ?_⟩
  · rw [if_pos upd_on]; exact (b7.set 0 _).set 1 _
  · rw [upd_off x.bc.symm, upd_off x.cd]
    intro k8
    have hne := h.ne k k8
    exact ⟨(h.a8 k8).1, ((h.a8 k8).2.other (p := ⟨p7, 0, none⟩) (by exact fun e => hne e.symm) _).other (p := ⟨p7, 1, none⟩) (by exact fun e => hne e.symm) _⟩
  · rw [upd_off x.ac.symm, upd_off x.bc.symm]; exact h.ne
  · rw [upd_off x.ac.symm]; exact k
  · rw [upd_off x.cd, upd_off x.bc.symm]; exact h.d9
theorem FvI.set8 (x : Ix4 A B C D) (h : FvI W0 A B C D m0 m1 o0 o1 t p7 p8 W) (k : t B = true) (hun : t D = false) : FvI W0 A B C D m0 m1 o0 o1 (Manyd.upd t D) p7 p8 ((W.setCell ⟨p8, 0, none⟩ (.int .i64 o0)).setCell ⟨p8, 1, none⟩ (.int .i64 o1)) := by
  obtain ⟨g8, b8⟩ := h.a8 k
  rw [hun] at b8
  refine ⟨(h.bw.setCell (p := ⟨p8, 0, none⟩) g8 _).setCell (p := ⟨p8, 1, none⟩) g8 _, ?_, fun _ => ⟨g8, ?_⟩, ?_, ?_, fun _ => ?_⟩
  · rw [upd_off x.ad.symm, upd_off x.cd.symm]
    intro k7
    have hne := h.ne k7 k
    exact ⟨(h.a7 k7).1, ((h.a7 k7).2.other (p := ⟨p8, 0, none⟩) (by exact hne) _).other (p := ⟨p8, 1, none⟩) (by exact hne) _⟩
  · rw [if_pos upd_on]; exact (b8.set 0 _).set 1 _
  · rw [upd_off x.ad.symm, upd_off x.bd.symm]; exact h.ne
  · rw [upd_off x.cd.symm, upd_off x.ad.symm]; exact h.d8
  · rw [upd_off x.bd.symm]; exact k
theorem FvI.fin (h : FvI W0 A B C D m0 m1 o0 o1 t p7 p8 W) (hA : t A = true) (hB : t B = true) (hC : t C = true) (hD : t D = true) : Below W0.heap.size W0 W ∧ (W0.heap.size ≤ p7 ∧ BlkAt W p7 #[.int .i64 m0, .int .i64 m1] 37) ∧ (W0.heap.size ≤ p8 ∧ BlkAt W p8 #[.int .i64 o0, .int .i64 o1] 37) ∧ p7 ≠ p8 := by
  have h7 := h.a7 hA
  have h8 := h.a8 hB
  rw [if_pos hC] at h7
  rw [if_pos hD] at h8
  exact ⟨h.bw, h7, h8, h.ne hA hB⟩
end
section
variable {P : Program} {W : World} {k : Nat} {o : Oper} {a : Act} {v : Value}
theorem clw {f : FuncId} {args : Array Value} (hc : ∀ w, Below W.heap.size W w → Calls P f args w fun e w' => e = .returned v ∧ Below w.heap.size w w') (h : ∀ w, Below W.heap.size W w → (execOp a.eval o).run P w = .ok (.enter f args) w) : Many.Tr P (Cb W) k o a v :=
  Many.tr_call (f := f) (args := args) (fun w => Below W.heap.size W w) (fun _ _ h => h) (fun s w hC => (hc w hC).mono fun e w' q => ⟨q.1, Below.trans hC (q.2.mono hC.size)⟩) h
end
end Go.Proofs.Ytbocmbhinjkjlaa
