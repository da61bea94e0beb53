import Derived.Test.YtifbiamfandjnaaPairMath
import Derived.Test.YtifbiamfandjnaaTame
import Derived.Deep.RegionHeld3
set_option linter.unusedSimpArgs false
set_option linter.unusedVariables false
namespace Go.Proofs.Ytifbiamfandjnaa
open Go Go.Proofs Go.RowKit
def excT (N : Nat) (zs : List Int) (k : Nat) : Int := exc N zs.length (belowC zs k) k
def cntL (zs : List Int) (k : Nat) : List Int := (List.range k).map fun t : Nat => ((belowC zs t : Nat) : Int)
theorem cntL_len (zs : List Int) (k : Nat) : (cntL zs k).length = k := by simp [cntL]
theorem cntL_push (zs : List Int) (k : Nat) : cntL zs (k + 1) = cntL zs k ++ [((belowC zs k : Nat) : Int)] := by simp [cntL, List.range_succ]
theorem cntL_at {zs : List Int} {n k : Nat} (h : k < n) : (cntL zs n).getD k 0 = ((belowC zs k : Nat) : Int) := by simp [cntL, h]
theorem pair_nonneg {g : Nat → Int} {N a b : Nat} {best : Int} (hN : 1 ≤ N) (h : pairSeen g N N (N + 1) best a b) : 0 ≤ best := by
  rcases h with ⟨h1, h2⟩ | ⟨h1, h2, h3, h4, h5, h6⟩
  · exact absurd (show (0 : Nat) < N ∨ ((0 : Nat) = N ∧ 1 < N + 1) by omega) (h2 0 1 (by omega) hN)
  · omega
set_option maxHeartbeats 2000000 in
set_option maxRecDepth 100000 in
theorem refIntv_any {N : Nat} {v : Value} {zs : List Int} {w : World} (hv : IntsAt w v zs) (hok : okLine N zs = true) :
    Calls Try.prog 26 #[.int .i64 N, v] w fun e w' => ∃ D s t : Nat, e = .returned (.tuple #[fracV (redN (D : Int) ((zs.length : Int) * N)) (redD (D : Int) ((zs.length : Int) * N)), .agg #[.int .i64 s, .int .i64 t]]) ∧ pairSpec (excT N zs) N D s t ∧ Below w.heap.size w w' := by
  obtain ⟨i0, hi, hz0, hz1, hz2⟩ := info_parts info3
  have hok1 := hok
  unfold okLine at hok1
  rw [Bool.and_eq_true, decide_eq_true_iff] at hok1
  obtain ⟨⟨k1, k2, k3, k4⟩, _⟩ := hok1
  have hN1 : 1 ≤ N := by omega
  have hN2 : N ≤ 1000 := by omega
  have hvk : Keep (IntsAt ((w.alloc (.cells #[.int .i64 0, .int .i64 0] 25)).alloc (.cells #[.int .i64 0, .int .i64 0] 39)) v zs) := ⟨ints_below hv (((Below.refl _ w).alloc (Nat.le_refl _) _).alloc (by simp) _)⟩
  obtain ⟨A, cap, rfl, hc⟩ := hv
  clear hc k1 k2
  obtain ⟨n, hn⟩ : ∃ n, Keep (zs.length = n) := ⟨_, ⟨rfl⟩⟩
  rw [hn.out] at k3 k4 hvk ⊢
  have k3 : 1 ≤ n := k3
  have hz60 : Keep (zs.length ≤ 60) := ⟨by rw [hn.out]; exact k4⟩
  go_enter Try.func26, Try.ntmps26
  go_wp2
  have hb0 : Below w.heap.size w ((w.alloc (.cells #[.int .i64 0, .int .i64 0] 25)).alloc (.cells #[.int .i64 0, .int .i64 0] 39)) := ((Below.refl _ w).alloc (Nat.le_refl _) _).alloc (by simp) _
  have hs0 : ((w.alloc (.cells #[.int .i64 0, .int .i64 0] 25)).alloc (.cells #[.int .i64 0, .int .i64 0] 39)).heap.size = w.heap.size + 2 := by simp
  have x0 : ((w.alloc (.cells #[.int .i64 0, .int .i64 0] 25)).alloc (.cells #[.int .i64 0, .int .i64 0] 39)).cell? ⟨w.heap.size, 0, none⟩ = some (.int .i64 0) ∧ ((w.alloc (.cells #[.int .i64 0, .int .i64 0] 25)).alloc (.cells #[.int .i64 0, .int .i64 0] 39)).cell? ⟨w.heap.size, 1, none⟩ = some (.int .i64 0) := ⟨by go_simp, by go_simp⟩
  have y0 : ((w.alloc (.cells #[.int .i64 0, .int .i64 0] 25)).alloc (.cells #[.int .i64 0, .int .i64 0] 39)).cell? ⟨w.heap.size + 1, 0, none⟩ = some (.int .i64 0) ∧ ((w.alloc (.cells #[.int .i64 0, .int .i64 0] 25)).alloc (.cells #[.int .i64 0, .int .i64 0] 39)).cell? ⟨w.heap.size + 1, 1, none⟩ = some (.int .i64 0) := ⟨by go_simp, by go_simp⟩
  have z0 : ((w.alloc (.cells #[.int .i64 0, .int .i64 0] 25)).alloc (.cells #[.int .i64 0, .int .i64 0] 39)).frozen? ⟨w.heap.size, 0, none⟩ = false ∧ ((w.alloc (.cells #[.int .i64 0, .int .i64 0] 25)).alloc (.cells #[.int .i64 0, .int .i64 0] 39)).frozen? ⟨w.heap.size, 1, none⟩ = false ∧ ((w.alloc (.cells #[.int .i64 0, .int .i64 0] 25)).alloc (.cells #[.int .i64 0, .int .i64 0] 39)).frozen? ⟨w.heap.size + 1, 0, none⟩ = false ∧ ((w.alloc (.cells #[.int .i64 0, .int .i64 0] 25)).alloc (.cells #[.int .i64 0, .int .i64 0] 39)).frozen? ⟨w.heap.size + 1, 1, none⟩ = false := ⟨by go_simp, by go_simp, by go_simp, by go_simp⟩
  obtain ⟨W0, hW0⟩ : ∃ W0, (w.alloc (.cells #[.int .i64 0, .int .i64 0] 25)).alloc (.cells #[.int .i64 0, .int .i64 0] 39) = W0 := ⟨_, rfl⟩
  rw [hW0] at hb0 hs0 x0 y0 z0 hvk ⊢
  clear hW0
  have x0 := Keep.mk x0
  have y0 := Keep.mk y0
  have z0 := Keep.mk z0
  have hs0 := Keep.mk hs0
  go_loopw [6, 7] (fun u i wr => ∃ k : Nat, k ≤ N + 1 ∧ i = .int .i64 k ∧ wr.ownsRow W0.heap.size 3 1 u k ((cntL zs k).map vz) ∧ Below W0.heap.size W0 wr) (fun _ i _ => N + 1 - (intOf i).toNat)
  case atStart => exact ⟨0, by omega, rfl, World.ownsRow_nil _ _ _ _, Below.refl _ _⟩
  case round =>
    obtain ⟨k, hk, rfl, hown, hbw⟩ := hrel
    have hbz : W0.heap.size ≤ wr.heap.size := hbw.size
    by_cases hlt : k ≤ N
    · have q58 := below_count (t := k) (ints_below hvk.out hbw) hz60.out (by omega)
      have hpush := Keep.mk (cntL_push zs k)
      obtain ⟨c, hc⟩ : ∃ c, belowC zs k = c := ⟨_, rfl⟩
      rw [hc] at q58 hpush
      clear hc
      go_wp2_with (first
        | (go_at_call 58; refine q58.mono ?_; rintro e w6 ⟨rfl, rfl⟩)
        | (at_builtin; go_loud (
           refine wpList_append_own _ rfl _ _ 22 rfl W0.heap.size 3 i0 (.int .i64 0) 1 8 ty22 hi hz0 hz1 hz2 rfl (by decide) _ _ _ rfl (hown.alloc _) ⟨w6.heap.size, 0, none⟩ 1 1 [.int .i64 c] rfl rfl (cell_one_new _ _ _) (fun x hx => by simp at hx; subst hx; rfl) (by unfold maxLen; omega) (by omega) (by simp; try omega) ?_
           intro v' w3 hown' hgrow3 hnil3
           have hbw3 : Below W0.heap.size W0 w3 := Below.grown (hbw.alloc hbz _) hgrow3 (by simp; omega) (fun j hj => by have := (hown.lt _ hj).1; omega)
           have X : Keep (w3.ownsRow W0.heap.size 3 1 v' (k + 1) ((cntL zs k).map vz ++ [.int .i64 c]) ∧ Below W0.heap.size W0 w3) := ⟨⟨hown', hbw3⟩⟩
           clear hown' hgrow3 hnil3 hbw3)))
      obtain ⟨h1, h2⟩ := X.out
      refine ⟨⟨k + 1, by omega, by go_num, ?_, h2⟩, by simp [intOf]; omega⟩
      rw [hpush.out, List.map_append]
      exact h1
    · have : k = N + 1 := by omega
      subst this
      rw [show ((N + 1 : Nat) : Int) = (N : Int) + 1 by push_cast; rfl]
      obtain ⟨W2, hW2⟩ : ∃ W2, W2 = wr := ⟨_, rfl⟩
      subst hW2
      have hcn := own_cellz (by rw [cntL_len]; exact hown)
      obtain ⟨A2, cap2, rfl, hcells⟩ := hcn
      rw [cntL_len] at hcells hown ⊢
      obtain ⟨g, rfl, _⟩ := hcells 0 (by omega)
      have hcs : Keep (∀ k, k ≤ N → W2.cell? ⟨g, k, none⟩ = some (.int .i64 (belowC zs k : Nat))) := ⟨fun k hk => by
        obtain ⟨g', hg', h⟩ := hcells k (by omega)
        injection hg' with hg'
        injection hg' with hg'
        rw [hg', h, cntL_at (by omega)]⟩
      clear hcells hown
      have hbwk := Keep.mk hbw
      clear hbw
      go_wp2
      go_loopw [8, 10] (fun x i wr => ∃ (best : Int) (s a b : Nat), s ≤ N ∧ x = .int .i64 best ∧ i = .int .i64 s ∧ Keep (pairSeen (excT N zs) N s (s + 1) best a b) ∧ -1 ≤ best ∧ best ≤ 1000000 ∧ Keep ((wr.cell? ⟨W2.heap.size, 0, none⟩ = some (.int .i64 a) ∧ wr.cell? ⟨W2.heap.size, 1, none⟩ = some (.int .i64 b)) ∧ (wr.frozen? ⟨W2.heap.size, 0, none⟩ = false ∧ wr.frozen? ⟨W2.heap.size, 1, none⟩ = false)) ∧ Below W2.heap.size W2 wr) (fun _ i _ => N - (intOf i).toNat)
      case atStart => exact ⟨-1, 0, 0, 0, by omega, rfl, rfl, ⟨pair_start⟩, by omega, by omega, ⟨⟨by go_simp, by go_simp⟩, by go_simp, by go_simp⟩, (Below.refl _ _).alloc (Nat.le_refl _) _⟩
      case round =>
        obtain ⟨best, s, a, b, hs, rfl, rfl, hseen, hb1, hb2, hB, hbr⟩ := hrel
        by_cases hlt : s < N
        · obtain ⟨W3, hW3⟩ : ∃ W3, W3 = wr := ⟨_, rfl⟩
          subst hW3
          go_wp2
          go_loopw [8, 11] (fun x i wr => ∃ (best : Int) (t a b : Nat), s < t ∧ t ≤ N + 1 ∧ x = .int .i64 best ∧ i = .int .i64 t ∧ Keep (pairSeen (excT N zs) N s t best a b) ∧ -1 ≤ best ∧ best ≤ 1000000 ∧ Keep ((wr.cell? ⟨W2.heap.size, 0, none⟩ = some (.int .i64 a) ∧ wr.cell? ⟨W2.heap.size, 1, none⟩ = some (.int .i64 b)) ∧ (wr.frozen? ⟨W2.heap.size, 0, none⟩ = false ∧ wr.frozen? ⟨W2.heap.size, 1, none⟩ = false)) ∧ Below W2.heap.size W2 wr) (fun _ i _ => N + 1 - (intOf i).toNat)
          case atStart => exact ⟨best, s + 1, a, b, by omega, by omega, rfl, by go_num, hseen, hb1, hb2, hB, hbr⟩
          case round =>
            obtain ⟨best, t, a, b, hst, ht, rfl, rfl, hseen, hb1, hb2, hB, hbr⟩ := hrel
            by_cases htN : t ≤ N
            · have hct := cell_below (hcs.out t htN) hbr
              have hcu := cell_below (hcs.out s (by omega)) hbr
              have l1 := belowC_le zs t
              have l2 := belowC_le zs s
              have hstep := pair_step hseen.out hst htN
              have hex : excT N zs t - excT N zs s = (((belowC zs t : Nat) : Int) - ((belowC zs s : Nat) : Int)) * (N : Int) - ((t : Int) - (s : Int)) * (n : Int) := by
                unfold excT exc; rw [hn.out, Int.sub_mul, Int.sub_mul]; omega
              rw [hex] at hstep
              obtain ⟨ct, hcte⟩ : ∃ c, belowC zs t = c := ⟨_, rfl⟩
              obtain ⟨cs, hcse⟩ : ∃ c, belowC zs s = c := ⟨_, rfl⟩
              rw [hcte] at hct l1 hstep
              rw [hcse] at hcu l2 hstep
              have hz := hz60.out
              have b1 : ((ct : Int) - (cs : Int)) * (N : Int) ≤ 60000 ∧ -60000 ≤ ((ct : Int) - (cs : Int)) * (N : Int) := by
                have p1 : ct * N ≤ 60 * 1000 := Nat.mul_le_mul (by omega) hN2
                have p2 : cs * N ≤ 60 * 1000 := Nat.mul_le_mul (by omega) hN2
                have q1 : ((ct * N : Nat) : Int) = (ct : Int) * N := Int.natCast_mul _ _
                have q2 : ((cs * N : Nat) : Int) = (cs : Int) * N := Int.natCast_mul _ _
                rw [Int.sub_mul]; omega
              have b2 : ((t : Int) - (s : Int)) * (n : Int) ≤ 60000 ∧ -60000 ≤ ((t : Int) - (s : Int)) * (n : Int) := by
                have p1 : t * n ≤ 1000 * 60 := Nat.mul_le_mul (by omega) k4
                have p2 : s * n ≤ 1000 * 60 := Nat.mul_le_mul (by omega) k4
                have q1 : ((t * n : Nat) : Int) = (t : Int) * n := Int.natCast_mul _ _
                have q2 : ((s * n : Nat) : Int) = (s : Int) * n := Int.natCast_mul _ _
                rw [Int.sub_mul]; omega
              obtain ⟨p, hp⟩ : ∃ p, Keep (((ct : Int) - (cs : Int)) * (N : Int) = p) := ⟨_, ⟨rfl⟩⟩
              obtain ⟨r, hr⟩ : ∃ r, Keep (((t : Int) - (s : Int)) * (n : Int) = r) := ⟨_, ⟨rfl⟩⟩
              rw [hp.out] at b1 hstep
              rw [hr.out] at b2 hstep
              have e2 : IntKind.i64.wrap (((ct : Int) - (cs : Int)) * (N : Int)) = p := by rw [hp.out]; exact IntWalk.i64_in _ (by omega)
              have e3 : IntKind.i64.wrap (((t : Int) - (s : Int)) * (n : Int)) = r := by rw [hr.out]; exact IntWalk.i64_in _ (by omega)
              have q57 := fun w => off_any (a := p) (b := r) (by omega) (by omega) w
              have hd6 : (p - r).natAbs ≤ 120000 := by omega
              obtain ⟨d, hd⟩ : ∃ d, Keep ((p - r).natAbs = d) := ⟨_, ⟨rfl⟩⟩
              rw [hd.out] at q57 hd6 hstep
              have e4 : IntKind.i64.wrap ((ct : Int) - (cs : Int)) = (ct : Int) - (cs : Int) := IntWalk.i64_in _ (by omega)
              have e5 : IntKind.i64.wrap ((t : Int) - (s : Int)) = (t : Int) - (s : Int) := IntWalk.i64_in _ (by omega)
              have hi1 : t < N + 1 := by omega
              have hi2 : s < N + 1 := by omega
              have hi3 : (t : Int) < (N : Int) + 1 := by omega
              have hi4 : (s : Int) < (N : Int) + 1 := by omega
              obtain ⟨⟨c0, c1⟩, f0, f1⟩ := hB.out
              have hsk := Keep.mk hstep
              have hbrk := Keep.mk hbr
              have hBk := hB
              clear hstep hex hcte hcse l1 l2 b1 b2 hz hbr hseen hB
              by_cases hgt : best < (d : Int)
              · have hs2 : Keep (pairSeen (excT N zs) N s (t + 1) (d : Int) s t) := ⟨by have := hsk.out; simp only [if_pos hgt] at this; exact this⟩
                clear hsk
                go_wp2
                go_region_held3 (fun w' => w'.cell? ⟨g, t, none⟩ = some (.int .i64 ct) ∧ w'.cell? ⟨g, s, none⟩ = some (.int .i64 cs)) (first | exact ⟨hct, hcu⟩ | go_keep)
                  ((first
                   | (go_at_call 57; (with_reducible refine (q57 _).mono ?_); rintro e w6 ⟨rfl, rfl⟩)))
                all_goals go_wp2
                all_goals refine ⟨⟨(d : Int), t + 1, s, t, by omega, by omega, rfl, by go_num, hs2, by omega, by omega, ⟨⟨by go_simp, by go_simp⟩, by go_simp, by go_simp⟩, ?_⟩, by simp [intOf]; omega⟩
                all_goals exact ((below_drewN hbrk.out 1).setCell (p := ⟨W2.heap.size, 0, none⟩) (Nat.le_refl _) _).setCell (p := ⟨W2.heap.size, 1, none⟩) (Nat.le_refl _) _
              · have hs2 : Keep (pairSeen (excT N zs) N s (t + 1) best a b) := ⟨by have := hsk.out; simp only [if_neg hgt] at this; exact this⟩
                clear hsk
                go_wp2
                go_region_held3 (fun w' => w'.cell? ⟨g, t, none⟩ = some (.int .i64 ct) ∧ w'.cell? ⟨g, s, none⟩ = some (.int .i64 cs)) (first | exact ⟨hct, hcu⟩ | go_keep)
                  ((first
                   | (go_at_call 57; (with_reducible refine (q57 _).mono ?_); rintro e w6 ⟨rfl, rfl⟩)))
                all_goals go_wp2
                all_goals exact ⟨⟨best, t + 1, a, b, by omega, by omega, rfl, by go_num, hs2, by omega, by omega, hBk, below_drewN hbrk.out 1⟩, by simp [intOf]; omega⟩
            · have : t = N + 1 := by omega
              subst this
              go_wp2
              exact ⟨⟨best, s + 1, a, b, by omega, rfl, by go_num, ⟨pair_row hseen.out⟩, hb1, hb2, hB, hbr⟩, by simp [intOf]; omega⟩
        · have hsN : s = N := by omega
          rw [hsN] at hseen ⊢
          have hD0 := pair_nonneg hN1 hseen.out
          obtain ⟨D, rfl⟩ : ∃ D : Nat, best = (D : Int) := ⟨best.toNat, by omega⟩
          have hspec := Keep.mk (pair_done hN1 hseen.out)
          have hP1 : 1 * 1 ≤ N * n := Nat.mul_le_mul hN1 k3
          have hP2 : N * n ≤ 1000 * 60 := Nat.mul_le_mul hN2 k4
          obtain ⟨P, hP⟩ : ∃ P : Int, Keep ((n : Int) * (N : Int) = P) := ⟨_, ⟨rfl⟩⟩
          have hPn : P = ((N * n : Nat) : Int) := by rw [← hP.out, Int.mul_comm]; push_cast; rfl
          have e1 : IntKind.i64.wrap ((N : Int) * (n : Int)) = P := by rw [Int.mul_comm, hP.out]; exact IntWalk.i64_in _ (by omega)
          have q22 := fun w => reduced_any (D : Int) P (by omega) (by omega) (by omega) (by omega) w
          obtain ⟨x, hx⟩ : ∃ x, Keep (redN (D : Int) P = x) := ⟨_, ⟨rfl⟩⟩
          obtain ⟨y, hy⟩ : ∃ y, Keep (redD (D : Int) P = y) := ⟨_, ⟨rfl⟩⟩
          rw [hx.out, hy.out] at q22
          unfold fracV at q22
          have hb02 : Keep (Below w.heap.size w wr) := ⟨(hb0.trans (hbwk.out.mono hb0.size)).trans (hbr.mono (by have := hb0.size; have := hbwk.out.size; omega))⟩
          have hbW : Below W0.heap.size W0 wr := hbwk.out.trans (hbr.mono hbwk.out.size)
          have u0 := cell_below x0.out.1 hbW
          have u1 := cell_below x0.out.2 hbW
          have v0 := cell_below y0.out.1 hbW
          have v1 := cell_below y0.out.2 hbW
          have f0 := (hbW.frozen (p := ⟨w.heap.size, 0, none⟩) (by show w.heap.size < _; have := hs0.out; omega)).trans z0.out.1
          have f1 := (hbW.frozen (p := ⟨w.heap.size, 1, none⟩) (by show w.heap.size < _; have := hs0.out; omega)).trans z0.out.2.1
          have f2 := (hbW.frozen (p := ⟨w.heap.size + 1, 0, none⟩) (by show w.heap.size + 1 < _; have := hs0.out; omega)).trans z0.out.2.2.1
          have f3 := (hbW.frozen (p := ⟨w.heap.size + 1, 1, none⟩) (by show w.heap.size + 1 < _; have := hs0.out; omega)).trans z0.out.2.2.2
          obtain ⟨⟨c0, c1⟩, _, _⟩ := hB.out
          have hsz : Keep (w.heap.size + 2 ≤ W2.heap.size ∧ W2.heap.size ≤ wr.heap.size) := ⟨⟨by have := hs0.out; have := hbwk.out.size; omega, hbr.size⟩⟩
          have g1 : ¬ W2.heap.size = w.heap.size := by have := hsz.out.1; omega
          have g2 : ¬ w.heap.size = W2.heap.size := by have := hsz.out.1; omega
          have g3 : ¬ W2.heap.size = w.heap.size + 1 := by have := hsz.out.1; omega
          have g4 : ¬ w.heap.size + 1 = W2.heap.size := by have := hsz.out.1; omega
          clear hP1 hP2 hPn hseen hB hbr hbW hlt hsN hD0
          go_wp2
          go_region_held3 (fun w' => w'.cell? ⟨W2.heap.size, 0, none⟩ = some (.int .i64 a) ∧ w'.cell? ⟨W2.heap.size, 1, none⟩ = some (.int .i64 b)) (first | exact ⟨c0, c1⟩ | go_keep)
            ((first
             | (go_at_call 22; (with_reducible refine (q22 _).mono ?_); rintro e w6 ⟨rfl, hb6⟩
                have c0 : w6.cell? ⟨W2.heap.size, 0, none⟩ = some (.int .i64 a) := cell_below (by exact c0) hb6
                have c1 : w6.cell? ⟨W2.heap.size, 1, none⟩ = some (.int .i64 b) := cell_below (by exact c1) hb6
                have u0 : w6.cell? ⟨w.heap.size, 0, none⟩ = some (.int .i64 0) := cell_below (by exact u0) hb6
                have u1 : w6.cell? ⟨w.heap.size, 1, none⟩ = some (.int .i64 0) := cell_below (by exact u1) hb6
                have v0 : w6.cell? ⟨w.heap.size + 1, 0, none⟩ = some (.int .i64 0) := cell_below (by exact v0) hb6
                have v1 : w6.cell? ⟨w.heap.size + 1, 1, none⟩ = some (.int .i64 0) := cell_below (by exact v1) hb6
                have hl0 : w.heap.size + 1 < wr.heap.size := by have := hsz.out; omega
                have f0 : w6.frozen? ⟨w.heap.size, 0, none⟩ = false := (hb6.frozen (p := ⟨w.heap.size, 0, none⟩) (by show w.heap.size < wr.heap.size; omega)).trans f0
                have f1 : w6.frozen? ⟨w.heap.size, 1, none⟩ = false := (hb6.frozen (p := ⟨w.heap.size, 1, none⟩) (by show w.heap.size < wr.heap.size; omega)).trans f1
                have f2 : w6.frozen? ⟨w.heap.size + 1, 0, none⟩ = false := (hb6.frozen (p := ⟨w.heap.size + 1, 0, none⟩) (by show w.heap.size + 1 < wr.heap.size; omega)).trans f2
                have f3 : w6.frozen? ⟨w.heap.size + 1, 1, none⟩ = false := (hb6.frozen (p := ⟨w.heap.size + 1, 1, none⟩) (by show w.heap.size + 1 < wr.heap.size; omega)).trans f3
                have hb06 : Below w.heap.size w w6 := (below_drewN hb02.out 1).trans (hb6.mono (by have := hb02.out.size; simpa using this))
                clear hb6 q22)))
          all_goals go_wp2
          all_goals refine bodyPost_ret (v := .tuple #[.agg #[.int .i64 x, .int .i64 y], .agg #[.int .i64 a, .int .i64 b]]) (by simp [results, Try.results26, go_sem]; go_simp) rfl ?_
          all_goals refine ⟨D, a, b, by rw [hP.out, hx.out, hy.out]; rfl, by have := hspec.out; rw [Int.toNat_natCast] at this; exact this, ?_⟩
          all_goals exact (((hb06.setCell (p := ⟨w.heap.size, 0, none⟩) (Nat.le_refl _) _).setCell (p := ⟨w.heap.size, 1, none⟩) (Nat.le_refl _) _).setCell (p := ⟨w.heap.size + 1, 0, none⟩) (by simp) _).setCell (p := ⟨w.heap.size + 1, 1, none⟩) (by simp) _
end Go.Proofs.Ytifbiamfandjnaa
