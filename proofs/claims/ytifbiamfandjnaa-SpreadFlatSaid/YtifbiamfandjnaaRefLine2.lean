import Derived.Test.YtifbiamfandjnaaRefLine
set_option linter.unusedSimpArgs false
set_option linter.unusedVariables false
namespace Go.Proofs.Ytifbiamfandjnaa
open Go Go.Proofs Go.RowKit
def devOf (N n : Nat) (zs : List Int) (t : Nat) : Nat × Bool :=
  if t = N ∨ (exc N n (belowC zs (t + 1)) t).natAbs ≤ (exc N n (belowC zs t) t).natAbs then ((exc N n (belowC zs t) t).natAbs, true) else ((exc N n (belowC zs (t + 1)) t).natAbs, false)
def key (a : Wit × Int) : Nat × Bool × Int := (a.1.1, a.1.2.1, a.2)
theorem step_dev {N n t : Nat} {zs : List Int} (ht : t ≤ N) (s : Wit × Int) :
    key ((witsAt N n (mid zs N) t).foldl wStep s) = if s.2 < ((devOf N n zs t).1 : Int) then (t, (devOf N n zs t).2, ((devOf N n zs t).1 : Int)) else key s := by
  have g1 : mid zs N t = belowC zs t := by unfold mid; rw [if_pos ht]
  unfold witsAt devOf
  by_cases htN : t = N
  · rw [if_pos htN, if_pos (Or.inl htN)]
    simp only [List.foldl_cons, List.foldl_nil, wStep, g1]
    split <;> rfl
  · have g2 : mid zs N (t + 1) = belowC zs (t + 1) := by unfold mid; rw [if_pos (by omega)]
    rw [if_neg htN]
    simp only [List.foldl_cons, List.foldl_nil, wStep, g1, g2]
    generalize (exc N n (belowC zs t) t) = a
    generalize (exc N n (belowC zs (t + 1)) t) = b
    by_cases hab : b.natAbs ≤ a.natAbs
    · rw [if_pos (Or.inr hab)]
      simp only
      by_cases h1 : s.2 < (a.natAbs : Int)
      · rw [if_pos h1, if_pos h1]; simp only; rw [if_neg (by omega)]; rfl
      · rw [if_neg h1, if_neg h1, if_neg (by omega)]
    · have hc : ¬ (t = N ∨ b.natAbs ≤ a.natAbs) := by rintro (h | h); exact htN h; exact hab h
      rw [if_neg hc]
      simp only
      by_cases h1 : s.2 < (a.natAbs : Int)
      · rw [if_pos h1]; simp only; rw [if_pos (by omega), if_pos (by omega)]; rfl
      · rw [if_neg h1]
        by_cases h2 : s.2 < (b.natAbs : Int)
        · rw [if_pos h2, if_pos h2]; rfl
        · rw [if_neg h2, if_neg h2]
theorem worst_step {N n t : Nat} {zs : List Int} (ht : t ≤ N) : key (worstOf (upTo N n (mid zs N) (t + 1))) = if (worstOf (upTo N n (mid zs N) t)).2 < ((devOf N n zs t).1 : Int) then (t, (devOf N n zs t).2, ((devOf N n zs t).1 : Int)) else key (worstOf (upTo N n (mid zs N) t)) := by
  have e : worstOf (upTo N n (mid zs N) (t + 1)) = (witsAt N n (mid zs N) t).foldl wStep (worstOf (upTo N n (mid zs N) t)) := by
    rw [upTo_succ]; unfold worstOf; rw [List.foldl_append]
  rw [e, step_dev ht]
theorem worst_at {N n t : Nat} {zs : List Int} (ht : t ≤ N) : key (worstOf (witsAt N n (mid zs N) t)) = (t, (devOf N n zs t).2, ((devOf N n zs t).1 : Int)) := by
  unfold worstOf
  rw [step_dev ht, if_pos (by show (-1 : Int) < _; omega)]
theorem dev_le {N n t : Nat} {zs : List Int} (hN : N ≤ 1000) (hn : n ≤ 60) (hz : zs.length ≤ 60) (ht : t ≤ N) : (devOf N n zs t).1 ≤ 60000 := by
  have h1 := exc_le hN hn (Nat.le_trans (belowC_le zs t) hz) (t := t) (by omega)
  have h2 := exc_le hN hn (Nat.le_trans (belowC_le zs (t + 1)) hz) (t := t) (by omega)
  unfold devOf
  split <;> simp only <;> omega
theorem refDev_any {N t : Nat} {v : Value} {zs : List Int} {w : World} (hv : IntsAt w v zs) (hN : N ≤ 1000) (hz : zs.length ≤ 60) (ht : t ≤ N) :
    Calls Try.prog 21 #[.int .i64 N, v, .int .i64 t] w fun e w' => e = .returned (.tuple #[.int .i64 ((devOf N zs.length zs t).1 : Nat), .bool (devOf N zs.length zs t).2]) ∧ w' = w := by
  have hv0 := hv
  obtain ⟨A, cap, rfl, hc⟩ := hv
  clear hc
  obtain ⟨c1, hc1⟩ : ∃ c, Keep (belowC zs t = c) := ⟨_, ⟨rfl⟩⟩
  obtain ⟨c2, hc2⟩ : ∃ c, Keep (belowC zs (t + 1) = c) := ⟨_, ⟨rfl⟩⟩
  obtain ⟨n, hn⟩ : ∃ n, Keep (zs.length = n) := ⟨_, ⟨rfl⟩⟩
  have l1 : c1 ≤ 60 := by have := belowC_le zs t; rw [hc1.out] at this; omega
  have l2 : c2 ≤ 60 := by have := belowC_le zs (t + 1); rw [hc2.out] at this; omega
  rw [hn.out] at hz hv0 ⊢
  have q1 : ∀ w', w' = w → Calls Try.prog 58 #[.slice A n cap, .int .i64 t] w' fun e w'' => e = .returned (.int .i64 c1) ∧ w'' = w' := fun w' h => by
    subst h; rw [← hc1.out]; exact below_count (by exact hv0) (by rw [hn.out]; exact hz) (by omega)
  obtain ⟨t', ht'⟩ : ∃ t' : Nat, Keep (t + 1 = t') := ⟨_, ⟨rfl⟩⟩
  have q2 : ∀ w', w' = w → Calls Try.prog 58 #[.slice A n cap, .int .i64 (t' : Nat)] w' fun e w'' => e = .returned (.int .i64 c2) ∧ w'' = w' := fun w' h => by
    subst h; rw [← hc2.out, ← ht'.out]; exact below_count (by exact hv0) (by rw [hn.out]; exact hz) (by omega)
  have m1 : c1 * N ≤ 60 * 1000 := Nat.mul_le_mul l1 hN
  have m2 : c2 * N ≤ 60 * 1000 := Nat.mul_le_mul l2 hN
  have m3 : t * n ≤ 1000 * 60 := Nat.mul_le_mul (by omega) hz
  obtain ⟨D, hD⟩ : ∃ D, Keep (devOf N n zs t = D) := ⟨_, ⟨rfl⟩⟩
  have hDk : Keep (D = if t = N ∨ (exc N n c2 t).natAbs ≤ (exc N n c1 t).natAbs then ((exc N n c1 t).natAbs, true) else ((exc N n c2 t).natAbs, false)) := ⟨by rw [← hD.out]; unfold devOf; rw [hc1.out, hc2.out]⟩
  rw [hD.out]
  obtain ⟨x, hx⟩ : ∃ x : Nat, Keep ((exc N n c1 t).natAbs = x) := ⟨_, ⟨rfl⟩⟩
  obtain ⟨y, hy⟩ : ∃ x : Nat, Keep ((exc N n c2 t).natAbs = x) := ⟨_, ⟨rfl⟩⟩
  rw [hx.out, hy.out] at hDk
  have e1 : IntKind.i64.wrap ((c1 : Int) * (N : Int)) = (c1 : Int) * (N : Int) := IntWalk.i64_in _ (by omega)
  have e2 : IntKind.i64.wrap ((c2 : Int) * (N : Int)) = (c2 : Int) * (N : Int) := IntWalk.i64_in _ (by omega)
  have e3 : IntKind.i64.wrap ((t : Int) * (n : Int)) = (t : Int) * (n : Int) := IntWalk.i64_in _ (by omega)
  have e4 : IntKind.i64.wrap ((t : Int) + 1) = (t' : Int) := by rw [IntWalk.i64_in _ (by omega), ← ht'.out]; push_cast; rfl
  have q3 : ∀ w, Calls Try.prog 57 #[.int .i64 ((c1 : Int) * (N : Int)), .int .i64 ((t : Int) * (n : Int))] w fun e w' => e = .returned (.int .i64 x) ∧ w' = w := fun w => by
    rw [← hx.out]; exact off_any (by omega) (by omega) w
  have q4 : ∀ w, Calls Try.prog 57 #[.int .i64 ((c2 : Int) * (N : Int)), .int .i64 ((t : Int) * (n : Int))] w fun e w' => e = .returned (.int .i64 y) ∧ w' = w := fun w => by
    rw [← hy.out]; exact off_any (by omega) (by omega) w
  clear hv0 m1 m2 m3
  go_enter Try.func21, Try.ntmps21
  by_cases htN : t = N
  · have hDe : Keep (D = (x, true)) := ⟨by rw [hDk.out, if_pos (Or.inl htN)]⟩
    have htb : ((t : Int) == (N : Int)) = true := by rw [beq_iff_eq]; omega
    clear hDk htN
    go_wp2_with (first
      | (go_at_call 58; (with_reducible refine (q1 _ rfl).mono ?_); rintro e w' ⟨rfl, rfl⟩)
      | (go_at_call 58; (with_reducible refine (q2 _ rfl).mono ?_); rintro e w' ⟨rfl, rfl⟩)
      | (go_at_call 57; (with_reducible refine (q3 _).mono ?_); rintro e w' ⟨rfl, rfl⟩)
      | (go_at_call 57; (with_reducible refine (q4 _).mono ?_); rintro e w' ⟨rfl, rfl⟩))
    go_ret2
    exact ⟨by rw [hDe.out]; rfl, rfl⟩
  · have htb : ((t : Int) == (N : Int)) = false := by rw [beq_eq_false_iff_ne]; omega
    by_cases hxy : y ≤ x
    · have hDe : Keep (D = (x, true)) := ⟨by rw [hDk.out, if_pos (Or.inr hxy)]⟩
      clear hDk htN
      go_wp2_with (first
        | (go_at_call 58; (with_reducible refine (q1 _ rfl).mono ?_); rintro e w' ⟨rfl, rfl⟩)
        | (go_at_call 58; (with_reducible refine (q2 _ rfl).mono ?_); rintro e w' ⟨rfl, rfl⟩)
        | (go_at_call 57; (with_reducible refine (q3 _).mono ?_); rintro e w' ⟨rfl, rfl⟩)
        | (go_at_call 57; (with_reducible refine (q4 _).mono ?_); rintro e w' ⟨rfl, rfl⟩))
      go_ret2
      exact ⟨by rw [hDe.out]; rfl, rfl⟩
    · have hDe : Keep (D = (y, false)) := ⟨by rw [hDk.out, if_neg (by rintro (h | h); exact htN h; exact hxy h)]⟩
      clear hDk htN
      go_wp2_with (first
        | (go_at_call 58; (with_reducible refine (q1 _ rfl).mono ?_); rintro e w' ⟨rfl, rfl⟩)
        | (go_at_call 58; (with_reducible refine (q2 _ rfl).mono ?_); rintro e w' ⟨rfl, rfl⟩)
        | (go_at_call 57; (with_reducible refine (q3 _).mono ?_); rintro e w' ⟨rfl, rfl⟩)
        | (go_at_call 57; (with_reducible refine (q4 _).mono ?_); rintro e w' ⟨rfl, rfl⟩))
      go_ret2
      exact ⟨by rw [hDe.out]; rfl, rfl⟩
end Go.Proofs.Ytifbiamfandjnaa
