import Derived.Test.YtbmfipjnfbnjgaaRefChances
import Derived.Test.YtbmfipjnfbnjgaaCutMath
set_option linter.unusedSimpArgs false
set_option linter.unusedVariables false
namespace Go.Proofs.Ytbmfipjnfbnjgaa
open Go Go.Proofs Go.RowKit Go.Sample Go.Seq
theorem sumTo_leN {f : Nat → Nat} {B : Nat} : ∀ n, (∀ k, k < n → f k ≤ B) → sumTo f n ≤ n * B
  | 0, _ => Nat.zero_le _
  | n + 1, h => by
    have h1 := sumTo_leN n (fun k hk => h k (by omega))
    have h2 := h n (by omega)
    rw [sumTo, Nat.add_mul, Nat.one_mul]; omega
set_option maxHeartbeats 2000000 in
set_option maxRecDepth 100000 in
theorem refCourse_any {N d : Nat} {c : Crs} {w : World} (h36 : N ≤ 36) (hd : d ≤ N) (hc : CrsIn w c) (l1 : 1 ≤ c.L) (l2 : c.L ≤ N) :
    Calls Try.prog 35 #[.int .i64 N, .int .i64 d, c.val] w fun e w' => e = .returned (.tuple #[.int .i64 (accAll N d c.A c.R c.L : Nat), .int .i64 (exAll N d c.A c.R c.L : Nat)]) ∧ Below w.heap.size w w' := by
  have hmx : Try.prog.follows .mixedOrders = true := by kernel_rfl
  rw [accAll_eq l2 h36, exAll_eq l2 h36]
  obtain ⟨Y, hY⟩ : ∃ Y : Nat → Nat, Keep (Y = fun i => yes N d c.A c.R i) := ⟨_, ⟨rfl⟩⟩
  obtain ⟨Z, hZ⟩ : ∃ Z : Nat → Nat, Keep (Z = fun i => no N d c.A c.R i) := ⟨_, ⟨rfl⟩⟩
  have hYZ : Keep (∀ k, k < c.L → Y k + Z k ≤ 9075135300) := ⟨fun k hk => by
    rw [hY.out, hZ.out]; exact Nat.le_trans (both_ch N d c.A c.R (by omega) (k + 2)) (ch_le h36 d)⟩
  have eY : ∀ i, yes N d c.A c.R i = Y i := fun i => by rw [hY.out]
  have eZ : ∀ i, no N d c.A c.R i = Z i := fun i => by rw [hZ.out]
  have q36 := fun (W : World) (h : CrsIn W c) => refChances_any h36 hd h l1 l2
  simp only [eY, eZ] at q36 ⊢
  clear eY eZ hY hZ
  obtain ⟨w0, hw0⟩ : ∃ w0, w.alloc (.cells #[c.sa, c.sr] 42) = w0 := ⟨_, rfl⟩
  have b0 : Below w.heap.size w w0 := by rw [← hw0]; exact (Below.refl _ _).alloc (Nat.le_refl _) _
  have hB0 : CrsBox w0 w.heap.size c := by rw [← hw0]; exact CrsBox.new hc 42
  obtain ⟨⟨d0, d1, _, _⟩, hin⟩ := hB0
  have q36 := q36 w0 hin
  obtain ⟨L, hL⟩ : ∃ L, Keep (c.L = L) := ⟨_, ⟨rfl⟩⟩
  simp only [Crs.sa, Crs.sr] at d0 d1 hw0
  simp only [Crs.val, Crs.sa, Crs.sr] at q36 ⊢
  simp only [hL.out] at l1 l2 q36 hYZ d0 d1 hw0 ⊢
  obtain ⟨SY, hSY⟩ : ∃ s : Nat → Nat, Keep (∀ k, s k = sumTo (fun i => Y i) k) := ⟨_, ⟨fun _ => rfl⟩⟩
  obtain ⟨SP, hSP⟩ : ∃ s : Nat → Nat, Keep (∀ k, s k = sumTo (fun i => (i + 1) * (Y i + Z i)) k) := ⟨_, ⟨fun _ => rfl⟩⟩
  rw [← hSY.out L, ← hSP.out L]
  have hbY : Keep (∀ k, k ≤ L → SY k ≤ 36 * 9075135300) := ⟨fun k hk => by
    rw [hSY.out]
    refine Nat.le_trans (sumTo_leN k (fun i hi => ?_)) (Nat.mul_le_mul (show k ≤ 36 by omega) (Nat.le_refl 9075135300))
    have := hYZ.out i (by omega)
    omega⟩
  have hbP : Keep (∀ k, k ≤ L → SP k ≤ 36 * (36 * 9075135300)) := ⟨fun k hk => by
    rw [hSP.out]
    refine Nat.le_trans (sumTo_leN k (fun i hi => ?_)) (Nat.mul_le_mul (show k ≤ 36 by omega) (Nat.le_refl (36 * 9075135300)))
    exact Nat.mul_le_mul (by omega) (hYZ.out i (by omega))⟩
  have hsY : Keep (∀ k, SY (k + 1) = SY k + Y k) := ⟨fun k => by rw [hSY.out, hSY.out]; rfl⟩
  have hsP : Keep (∀ k, SP (k + 1) = SP k + (k + 1) * (Y k + Z k)) := ⟨fun k => by rw [hSP.out, hSP.out]; rfl⟩
  have z0 : Keep (SY 0 = 0 ∧ SP 0 = 0) := ⟨by rw [hSY.out, hSP.out]; exact ⟨rfl, rfl⟩⟩
  clear hSY hSP
  go_enter Try.func35, Try.ntmps35
  go_wp2_with (first
    | (go_at_call 36; (with_reducible refine q36.mono ?_); rintro e w1 ⟨va, vr, rfl, hra, hrr, hb1⟩
       obtain ⟨ga, ca, rfl, _, _, _, _, hca⟩ := row_parts l1 hra
       obtain ⟨gr, cr, rfl, _, _, _, _, hcr⟩ := row_parts l1 hrr
       have bw := b0.trans (hb1.mono b0.size)
       have hcak := Keep.mk hca
       have hcrk := Keep.mk hcr
       clear hra hrr hb1 hca hcr q36))
  go_loopw [10, 11, 12] (fun a b i wr => ∃ k : Nat, k ≤ L ∧ i = .int .i64 k ∧ a = .int .i64 (SY k : Nat) ∧ b = .int .i64 (SP k : Nat) ∧ Keep (Below w1.heap.size w1 wr)) (fun _ _ i _ => L - (intOf i).toNat)
  case atStart => exact ⟨0, by omega, rfl, by rw [z0.out.1]; rfl, by rw [z0.out.2]; rfl, ⟨Below.refl _ _⟩⟩
  case round =>
    obtain ⟨k, hk, rfl, rfl, rfl, hbk⟩ := hrel
    by_cases hlt : k < L
    · have hlt' : (k : Int) < (L : Int) := by omega
      have nk0 : ¬ (k : Int) < 0 := by omega
      have cy := cell_below (hcak.out k hlt) hbk.out
      have cz := cell_below (hcrk.out k hlt) hbk.out
      rw [Nat.zero_add] at cy cz
      have hb := hYZ.out k hlt
      have h1 := hbY.out (k + 1) (by omega)
      have h2 := hbP.out (k + 1) (by omega)
      have e1 := hsY.out k
      have e2 := hsP.out k
      obtain ⟨y, hy⟩ : ∃ y, Y k = y := ⟨_, rfl⟩
      obtain ⟨z, hz⟩ : ∃ z, Z k = z := ⟨_, rfl⟩
      rw [hy] at cy hb e1 e2
      rw [hz] at cz hb e2
      obtain ⟨a2, ha2⟩ : ∃ x, Keep (SY (k + 1) = x) := ⟨_, ⟨rfl⟩⟩
      obtain ⟨b2, hb2⟩ : ∃ x, Keep (SP (k + 1) = x) := ⟨_, ⟨rfl⟩⟩
      rw [ha2.out] at h1 e1
      rw [hb2.out] at h2 e2
      obtain ⟨u, hu⟩ : ∃ x, SY k = x := ⟨_, rfl⟩
      obtain ⟨t, ht⟩ : ∃ x, SP k = x := ⟨_, rfl⟩
      rw [hu] at e1 ⊢
      rw [ht] at e2 ⊢
      obtain ⟨yz, hyz⟩ : ∃ x, y + z = x := ⟨_, rfl⟩
      rw [hyz] at e2 hb
      obtain ⟨pr, hpr⟩ : ∃ x, (k + 1) * yz = x := ⟨_, rfl⟩
      rw [hpr] at e2
      have o1 : IntKind.i64.wrap ((u : Int) + (y : Int)) = (a2 : Int) := by rw [IntWalk.i64_in _ (by omega)]; omega
      have o2 : IntKind.i64.wrap ((k : Int) + 1) = (k : Int) + 1 := IntWalk.i64_in _ (by omega)
      have o3 : IntKind.i64.wrap ((y : Int) + (z : Int)) = (yz : Int) := by rw [IntWalk.i64_in _ (by omega)]; omega
      have o4 : IntKind.i64.wrap (((k : Int) + 1) * (yz : Int)) = (pr : Int) := by
        rw [show ((k : Int) + 1) * (yz : Int) = (pr : Int) by rw [← hpr]; push_cast; rfl, IntWalk.i64_in _ (by omega)]
      have o5 : IntKind.i64.wrap ((t : Int) + (pr : Int)) = (b2 : Int) := by rw [IntWalk.i64_in _ (by omega)]; omega
      clear hu ht hy hz hyz hpr e1 e2 h1 h2 hb
      go_wp2
      go_quiet (fail)
      go_wp2
      exact ⟨⟨k + 1, by omega, by go_num, by rw [ha2.out], by rw [hb2.out], ⟨below_drewN hbk.out _⟩⟩, by simp [intOf]; omega⟩
    · obtain rfl : k = L := by omega
      have hlt' : ¬ (k : Int) < (k : Int) := by omega
      go_wp2
      refine bodyPost_ret (v := .tuple #[.int .i64 (SY k : Nat), .int .i64 (SP k : Nat)]) (by simp [results, Try.results35, go_sem]; try go_simp) rfl ?_
      exact ⟨rfl, bw.trans (hbk.out.mono bw.size)⟩
end Go.Proofs.Ytbmfipjnfbnjgaa
