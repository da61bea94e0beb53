import Derived.Test.YteekigpdiklppaaWSoakFn
set_option linter.unusedSimpArgs false
set_option linter.unusedVariables false
namespace Go.Proofs.Yteekigpdiklppaa
open Go Go.Proofs Go.RowKit Go.Seq
attribute [local go_sem] Oper.semAt_some
def pairM (N : Nat) (p : Int × Int) : Int × Int := (((min (modN p.1 N) (modN p.2 N) : Nat) : Int), ((max (modN p.1 N) (modN p.2 N) : Nat) : Int))
def tameStep (N : Nat) (out : Pts) (p : Int × Int) : Pts := if (decide (modN p.1 N = modN p.2 N) || out.any fun q => decide (q = pairM N p)) = true then out else out ++ [pairM N p]
def tameE (N : Nat) (ps : Pts) : Pts := ps.foldl (tameStep N) []
theorem tameE_snoc (N : Nat) (ps : Pts) (p : Int × Int) : tameE N (ps ++ [p]) = tameStep N (tameE N ps) p := by simp [tameE]
def codeF (out : Pts) (c : Nat) : Bool := out.any fun p => decide (p.1 * 12 + p.2 = (c : Int))
structure TOk (N : Nat) (out : Pts) : Prop where
  ed : ∀ k, k < out.length → EdgeOk N (out.take k) (out.getD k (0, 0))
  len : out.length ≤ (vsTo (codeF out) 144).length
theorem TOk.mem {N : Nat} {out : Pts} (h : TOk N out) {p : Int × Int} (hp : p ∈ out) : 0 ≤ p.1 ∧ p.1 < p.2 ∧ p.2 < (N : Int) := by
  obtain ⟨k, hk, rfl⟩ := List.getElem_of_mem hp
  have := h.ed k hk
  rw [List.getD_eq_getElem?_getD, List.getElem?_eq_getElem hk] at this
  exact ⟨this.a0, this.ab, this.bn⟩
theorem TOk.le {N : Nat} {out : Pts} (h : TOk N out) : out.length ≤ 144 := Nat.le_trans h.len (vsTo_len _ _)
theorem TOk.nil (N : Nat) : TOk N [] := ⟨fun k hk => by simp at hk, by simp⟩
theorem TOk.push {N : Nat} (hN : N ≤ 12) {out : Pts} (h : TOk N out) {x : Int × Int} (h0 : 0 ≤ x.1) (h1 : x.1 < x.2) (h2 : x.2 < (N : Int)) (hn : x ∉ out) : TOk N (out ++ [x]) := by
  refine ⟨fun k hk => ?_, ?_⟩
  · rw [List.length_append] at hk
    by_cases e : k < out.length
    · rw [List.take_append_of_le_length (by omega), List.getD_eq_getElem?_getD, List.getElem?_append_left e, ← List.getD_eq_getElem?_getD]
      exact h.ed k e
    · have e2 : k = out.length := by simp at hk; omega
      subst e2
      rw [List.take_append_of_le_length (Nat.le_refl _), List.take_length, List.getD_eq_getElem?_getD, List.getElem?_append_right (Nat.le_refl _)]
      simp only [Nat.sub_self, List.getElem?_cons_zero, Option.getD_some]
      refine ⟨h0, by omega, by omega, h2, h1, ?_⟩
      unfold adjOf
      rw [List.any_eq_false]
      intro p hp
      obtain ⟨p0, p1, p2⟩ := h.mem hp
      have hne : ¬ (p.1 = x.1 ∧ p.2 = x.2) := fun e => hn (by rw [show x = p from Prod.ext e.1.symm e.2.symm]; exact hp)
      simp only [Bool.or_eq_true, Bool.and_eq_true, beq_iff_eq]
      omega
  · obtain ⟨c, hc⟩ : ∃ c : Nat, (c : Int) = x.1 * 12 + x.2 := ⟨(x.1 * 12 + x.2).toNat, by omega⟩
    have hmono : ∀ j, codeF out j = true → codeF (out ++ [x]) j = true := fun j hj => by
      unfold codeF at *
      rw [List.any_append, hj]; rfl
    have hlt := (vsTo_mono hmono 144).2 ⟨c, by omega, ?_, ?_⟩
    · have := h.len
      rw [List.length_append]
      simp only [List.length_cons, List.length_nil]
      omega
    · unfold codeF
      rw [List.any_eq_false]
      intro p hp
      obtain ⟨p0, p1, p2⟩ := h.mem hp
      simp only [decide_eq_true_eq]
      intro e
      exact hn (by rw [show x = p from Prod.ext (by omega) (by omega)]; exact hp)
    · unfold codeF
      rw [List.any_append]
      simp [hc]
theorem tame_ok {N : Nat} (h1 : 1 ≤ N) (hN : N ≤ 12) : ∀ (ps : Pts) (out : Pts), TOk N out → TOk N (ps.foldl (tameStep N) out)
  | [], out, h => h
  | p :: l, out, h => by
    simp only [List.foldl_cons]
    refine tame_ok h1 hN l _ ?_
    unfold tameStep
    split
    · exact h
    · rename_i hne
      rw [Bool.or_eq_true, not_or] at hne
      obtain ⟨e1, e2⟩ := hne
      have ha := modN_lt p.1 h1
      have hb := modN_lt p.2 h1
      have hab : modN p.1 N ≠ modN p.2 N := by simpa using e1
      refine h.push hN (by show (0 : Int) ≤ ((_ : Nat) : Int); omega) ?_ ?_ ?_
      · show ((_ : Nat) : Int) < ((_ : Nat) : Int); omega
      · show ((_ : Nat) : Int) < (N : Int); omega
      · intro hm
        refine e2 ?_
        rw [List.any_eq_true]
        exact ⟨_, hm, by simp⟩
theorem tameE_ok {N : Nat} (h1 : 1 ≤ N) (hN : N ≤ 12) (ps : Pts) : TOk N (tameE N ps) := tame_ok h1 hN ps [] (.nil N)
theorem tameE_gr {N : Nat} (h1 : 1 ≤ N) (hN : N ≤ 12) (ps : Pts) : GrOk N (tameE N ps) := ⟨by omega, by omega, (tameE_ok h1 hN ps).ed⟩
set_option maxRecDepth 100000 in
theorem eq63 (x y a b : Int) (w : World) : (Op.equalIn 10000 63 (.agg #[.int .i64 x, .int .i64 y]) (.agg #[.int .i64 a, .int .i64 b])).run Try.prog w = .ok (decide ((x, y) = (a, b))) w := by
  have u3 := Try.underlying3
  have a3 := Try.isAgg3
  have z3 := Try.sizeOf3
  rw [show (10000 : Nat) = 9999 + 1 from rfl, Op.equalIn]
  simp only [Sem.run_bind, run_underlying Try.underlying63, Result.andThen_ok]
  simp only [Std.Legacy.Range.forIn_eq_forIn_range', Std.Legacy.Range.size, Nat.sub_zero, Nat.add_sub_cancel, Nat.div_one, List.range'_succ, List.range'_zero, List.forIn_cons, List.forIn_nil]
  by_cases h0 : x = a
  · by_cases h1 : y = b
    · subst h0 h1
      rw [decide_eq_true rfl]
      go_simp
      try simp
    · rw [decide_eq_false (fun h => h1 (Prod.mk.inj h).2)]
      go_simp
      try simp [h0, h1]
  · rw [decide_eq_false (fun h => h0 (Prod.mk.inj h).1)]
    go_simp
    try simp [h0]
end Go.Proofs.Yteekigpdiklppaa
