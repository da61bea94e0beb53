import Derived.Test.YtifbiamfandjnaaRefLine2
set_option linter.unusedSimpArgs false
set_option linter.unusedVariables false
namespace Go.Proofs.Ytifbiamfandjnaa
open Go Go.Proofs Go.RowKit
theorem key_cases (a : Wit × Int) {t : Nat} {l : Bool} {m : Int} (h : key a = (t, l, m)) : a.1.1 = t ∧ a.1.2.1 = l ∧ a.2 = m := by
  simp only [key, Prod.mk.injEq] at h; exact h
set_option maxHeartbeats 1000000 in
theorem refLine_any {N : Nat} {v : Value} {zs : List Int} {w : World} (hv : IntsAt w v zs) (hok : okLine N zs = true) :
    Calls Try.prog 20 #[.int .i64 N, v] w fun e w' => e = .returned (.tuple #[fracV (redN (lineW N zs).2 ((zs.length : Int) * N)) (redD (lineW N zs).2 ((zs.length : Int) * N)), .int .i64 ((lineW N zs).1.1 : Nat), .bool (lineW N zs).1.2.1]) ∧ Below w.heap.size w w' := by
  have hok1 := hok
  unfold okLine at hok1
  rw [Bool.and_eq_true, decide_eq_true_iff] at hok1
  obtain ⟨⟨k1, k2, k3, k4⟩, _⟩ := hok1
  have hN2 : N ≤ 1000 := by omega
  have hv0 := ints_below hv ((Below.refl _ w).alloc (Nat.le_refl _) (.cells #[.int .i64 0, .int .i64 0] 25))
  obtain ⟨A, cap, rfl, hc⟩ := hv
  clear hc
  have hm : N * zs.length ≤ 1000 * 60 := Nat.mul_le_mul hN2 k4
  have hm1 : 1 * 1 ≤ N * zs.length := Nat.mul_le_mul (by omega) k3
  obtain ⟨n, hn⟩ : ∃ n, Keep (zs.length = n) := ⟨_, ⟨rfl⟩⟩
  obtain ⟨P, hP⟩ : ∃ P : Nat, Keep (N * n = P) := ⟨_, ⟨rfl⟩⟩
  have hdl : Keep (∀ t, t ≤ N → (devOf N n zs t).1 ≤ 60000) := ⟨fun t ht => dev_le hN2 (by rw [← hn.out]; exact k4) k4 ht⟩
  have q21 : ∀ (t : Nat) (w' : World), t ≤ N → w' = w.alloc (.cells #[.int .i64 0, .int .i64 0] 25) → Calls Try.prog 21 #[.int .i64 N, .slice A n cap, .int .i64 t] w' fun e w'' => e = .returned (.tuple #[.int .i64 ((devOf N n zs t).1 : Nat), .bool (devOf N n zs t).2]) ∧ w'' = w' := fun t w' ht h => by
    subst h; rw [← hn.out]; exact refDev_any hv0 hN2 k4 ht
  have hcomm : (n : Int) * (N : Int) = (P : Int) := by rw [← hP.out, Int.mul_comm]; push_cast; rfl
  have hLW : Keep (worstOf (upTo N n (mid zs N) (N + 1)) = lineW N zs) := ⟨by unfold lineW allWits; rw [hn.out]⟩
  rw [hn.out] at hm hm1 k3 k4 ⊢
  rw [hcomm]
  rw [hP.out] at hm hm1
  have e1 : IntKind.i64.wrap ((N : Int) * (n : Int)) = (P : Int) := by rw [Int.mul_comm, hcomm, IntWalk.i64_in _ (by omega)]
  obtain ⟨L, hL⟩ : ∃ L, Keep (lineW N zs = L) := ⟨_, ⟨rfl⟩⟩
  rw [hL.out] at hLW ⊢
  clear hv0 hok k1 k2 hcomm
  go_enter Try.func20, Try.ntmps20
  go_wp2
  go_loop [7, 8, 9, 10] (fun x y z i => ∃ (t a : Nat) (l : Bool) (m : Int), t ≤ N + 1 ∧ i = .int .i64 t ∧ x = .int .i64 m ∧ y = .int .i64 a ∧ z = .bool l ∧ Keep (key (worstOf (upTo N n (mid zs N) t)) = (a, l, m)) ∧ -1 ≤ m ∧ m ≤ 60000) (fun _ _ _ i => N + 1 - (intOf i).toNat)
  case atStart => exact ⟨0, 0, false, -1, by omega, rfl, rfl, rfl, rfl, ⟨rfl⟩, by omega, by omega⟩
  case round =>
    obtain ⟨t, a, l, m, ht, rfl, rfl, rfl, rfl, hkey, hm1', hm2'⟩ := hrel
    by_cases hlt : t ≤ N
    · have hstep := worst_step (n := n) (zs := zs) hlt
      have hd6 := hdl.out t hlt
      obtain ⟨⟨d, f⟩, hdf⟩ : ∃ D, Keep (devOf N n zs t = D) := ⟨_, ⟨rfl⟩⟩
      have hq := q21 t _ hlt rfl
      rw [hdf.out] at hstep hd6 hq
      obtain ⟨_, _, hmm⟩ := key_cases _ hkey.out
      rw [hmm, hkey.out] at hstep
      have hsk := Keep.mk hstep
      clear hstep hmm hdl q21
      simp only at hd6 hq
      by_cases hgt : m < (d : Int)
      · have hk2 : Keep (key (worstOf (upTo N n (mid zs N) (t + 1))) = (t, f, (d : Int))) := ⟨by rw [hsk.out]; simp only; rw [if_pos hgt]⟩
        clear hsk
        go_wp2_with (go_at_call 21; refine Calls.mono hq ?_; rintro e w' ⟨rfl, rfl⟩)
        all_goals exact ⟨⟨t + 1, t, f, d, by omega, by go_num, rfl, rfl, rfl, hk2, by omega, by omega⟩, by simp [intOf]; omega⟩
      · have hk2 : Keep (key (worstOf (upTo N n (mid zs N) (t + 1))) = (a, l, m)) := ⟨by rw [hsk.out]; simp only; rw [if_neg hgt]⟩
        clear hsk
        go_wp2_with (go_at_call 21; refine Calls.mono hq ?_; rintro e w' ⟨rfl, rfl⟩)
        all_goals exact ⟨⟨t + 1, a, l, m, by omega, by go_num, rfl, rfl, rfl, hk2, by omega, by omega⟩, by simp [intOf]; omega⟩
    · have : t = N + 1 := by omega
      subst this
      rw [hLW.out] at hkey
      obtain ⟨ha, hl, hmm⟩ := key_cases _ hkey.out
      have hfin : Keep (L.1.1 = a ∧ L.1.2.1 = l ∧ L.2 = m) := ⟨⟨ha, hl, hmm⟩⟩
      have hred := fun w => reduced_any m (P : Int) (by omega) (by omega) (by omega) (by omega) w
      obtain ⟨x, hx⟩ : ∃ x, Keep (redN m (P : Int) = x) := ⟨_, ⟨rfl⟩⟩
      obtain ⟨y, hy⟩ : ∃ y, Keep (redD m (P : Int) = y) := ⟨_, ⟨rfl⟩⟩
      rw [hx.out, hy.out] at hred
      unfold fracV at hred
      clear ha hl hmm hkey hdl q21 hLW
      go_wp2_with (go_at_call 22; (with_reducible refine (hred _).mono ?_); rintro e w5 ⟨rfl, hb⟩
                   have c0 : w5.cell? ⟨w.heap.size, 0, none⟩ = some (.int .i64 0) := (hb.cell (p := ⟨w.heap.size, 0, none⟩) (by simp)).trans (by go_simp)
                   have c1 : w5.cell? ⟨w.heap.size, 1, none⟩ = some (.int .i64 0) := (hb.cell (p := ⟨w.heap.size, 1, none⟩) (by simp)).trans (by go_simp)
                   have f0 : w5.frozen? ⟨w.heap.size, 0, none⟩ = false := (hb.frozen (p := ⟨w.heap.size, 0, none⟩) (by simp)).trans (by go_simp)
                   have f1 : w5.frozen? ⟨w.heap.size, 1, none⟩ = false := (hb.frozen (p := ⟨w.heap.size, 1, none⟩) (by simp)).trans (by go_simp)
                   have hbk : Below w.heap.size w w5 := ((Below.refl _ w).alloc (Nat.le_refl _) _).trans (hb.mono (by simp))
                   clear hb hred)
      refine bodyPost_ret (v := .tuple #[.agg #[.int .i64 x, .int .i64 y], .int .i64 a, .bool l]) (by simp [results, Try.results20, go_sem]; go_simp) rfl ?_
      refine ⟨?_, (hbk.setCell (p := ⟨w.heap.size, 0, none⟩) (Nat.le_refl _) _).setCell (p := ⟨w.heap.size, 1, none⟩) (Nat.le_refl _) _⟩
      obtain ⟨f1, f2, f3⟩ := hfin.out
      rw [f1, f2, f3, hx.out, hy.out]
      rfl
end Go.Proofs.Ytifbiamfandjnaa
