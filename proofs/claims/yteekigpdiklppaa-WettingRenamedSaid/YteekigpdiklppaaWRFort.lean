import Derived.Test.YteekigpdiklppaaWOrdM
import Derived.Test.YteekigpdiklppaaWFoM
set_option linter.unusedSimpArgs false
set_option linter.unusedVariables false
namespace Go.Proofs.Yteekigpdiklppaa
open Go Go.Proofs Go.RowKit Go.Seq
attribute [local go_sem] Oper.semAt_some
theorem isF_ref {N : Nat} {E : Pts} (hG : GOk N E) {s : Nat → Bool} (hs : InN N s) : isF N (adjOf E) s = true ↔ (∃ j, j < 12 ∧ s j = true) ∧ ∀ p, p < N → s p = false → sz (fun u => adjOf E p u && s u) ≠ 1 := by
  have hN := hG.n12
  rw [isF_iff]
  refine and_congr_right fun _ => ?_
  have hD : ∀ v, onlyOf (fun u => adjOf E v u && !dryS N s u) = onlyOf (fun u => adjOf E v u && s u) := fun v => onlyOf_cg fun j hj => by
    cases e : adjOf E v j with
    | false => rfl
    | true =>
      have := hG.adj e
      unfold dryS
      simp [this]
  constructor
  · intro h p hp hsp h1
    obtain ⟨u, hu1, hu2, hu3⟩ := one_only h1
    rw [← hD p] at hu3
    have hf : fround (adjOf E) (dryS N s) u = true := (force_iff _ _ _).2 (.inr ⟨p, by omega, by unfold dryS; simp [hp, hsp], hu3⟩)
    rw [h u hu1] at hf
    rw [Bool.and_eq_true] at hu2
    unfold dryS at hf
    rw [hu2.2] at hf; simp at hf
  · intro h j hj
    cases e : dryS N s j with
    | true => exact (infl_force (adjOf E)).up _ _ e
    | false =>
      cases e2 : fround (adjOf E) (dryS N s) j with
      | false => rfl
      | true =>
        rcases (force_iff _ _ _).1 e2 with h1 | ⟨v, h1, h2, h3⟩
        · rw [e] at h1; cases h1
        · rw [hD v] at h3
          unfold dryS at h2
          rw [Bool.and_eq_true, decide_eq_true_eq] at h2
          exact absurd ((only_sz hj).1 h3).1 (h v h2.1 (by simpa using h2.2))
set_option maxHeartbeats 4000000 in
set_option maxRecDepth 100000 in
theorem refFort_any {N n G : Nat} {E : Pts} {s : Nat → Bool} {w : World} (hG : GOk N E) (hs : InN N s) (hn : num s = n) (hg : NumsAt w G N 3 (nearOf E)) :
    Calls Try.prog 47 #[.slice (some ⟨G, 0, none⟩) N N, .int .i64 (n : Nat)] w fun e w' => e = .returned (.bool (isF N (adjOf E) s)) ∧ Below w.heap.size w w' := by
  have hN := hG.n12
  have hiff := Keep.mk (isF_ref hG hs)
  obtain ⟨R, hR⟩ : ∃ R, isF N (adjOf E) s = R := ⟨_, rfl⟩
  rw [hR] at hiff ⊢
  have hnl : n < 4096 := by rw [← hn]; exact num_lt s
  have hpos : Keep (0 < n ↔ ∃ j, j < 12 ∧ s j = true) := ⟨by
    constructor
    · intro h
      refine Classical.byContradiction fun hc => ?_
      have : num s = 0 := num_none.2 fun j hj => by
        cases e : s j with
        | false => rfl
        | true => exact absurd ⟨j, hj, e⟩ hc
      omega
    · rintro ⟨j, hj, hx⟩
      rcases Nat.eq_zero_or_pos n with h | h
      · rw [num_none.1 (hn.trans h) j hj] at hx; cases hx
      · exact h⟩
  have hbits := fun k => num_bit s k
  rw [hn] at hbits
  have hnk := Keep.mk hn
  have hg0 := Keep.mk (And.intro hg (Below.refl w.heap.size w))
  clear hR hn hg hG
  go_enter Try.func47, Try.ntmps47
  go_wp2
  go_loopw [5] (fun i wr => ∃ k : Nat, k ≤ N ∧ i = .int .i64 k ∧ Keep (∀ p, p < k → s p = false → sz (fun u => adjOf E p u && s u) ≠ 1) ∧ Keep (NumsAt wr G N 3 (nearOf E) ∧ Below w.heap.size w wr)) (fun i _ => N - (intOf i).toNat)
  case atStart => exact ⟨0, by omega, rfl, ⟨fun p hp => by omega⟩, hg0⟩
  case round =>
    obtain ⟨k, hk, rfl, hP, hI⟩ := hrel
    have hw1 : IntKind.i64.wrap ((k : Int) + 1) = (k : Int) + 1 := IntWalk.i64_in _ (by omega)
    by_cases hlt : k < N
    · have hlt' : (k : Int) < (N : Int) := by omega
      have hk0 : ¬ (k : Int) < 0 := by omega
      have hsh := shr_i64 n k hnl
      obtain ⟨q, hq⟩ : ∃ q, n / 2 ^ k = q := ⟨_, rfl⟩
      rw [hq] at hsh
      have hb := bit_mod n k
      rw [hq, hbits k, decide_eq_true (p := k < 12) (by omega), Bool.true_and] at hb
      obtain ⟨p, hp⟩ : ∃ p, q % 2 = p := ⟨_, rfl⟩
      have hp2 : p < 2 := by omega
      have hrem : (q : Int).tmod 2 = (p : Int) := by rw [show (2 : Int) = ((2 : Nat) : Int) from rfl, IntWalk.up_tmod rfl rfl, hp]
      rw [hp] at hb
      cases hsk : s k with
      | true =>
        have hp1 : p = 1 := hb.2 hsk
        subst hp1
        have hP2 : Keep (∀ p, p < k + 1 → s p = false → sz (fun u => adjOf E p u && s u) ≠ 1) := ⟨fun p hp hf => by
          by_cases e : p = k
          · subst e; rw [hsk] at hf; cases hf
          · exact hP.out p (by omega) hf⟩
        clear hb hp hp2 hq hsk hP
        go_wp2
        exact ⟨⟨k + 1, by omega, by go_num, hP2, hI⟩, by simp [intOf]; omega⟩
      | false =>
        have hp0 : p = 0 := by
          by_cases e : p = 1
          · rw [hb.1 e] at hsk; cases hsk
          · omega
        subst hp0
        obtain ⟨fa, hfa⟩ : ∃ fa, nearOf E k = fa := ⟨_, rfl⟩
        have cG := (hI.out.1.cell hlt).1
        rw [hfa] at cG
        have hand := and_num (adjOf E k) s
        rw [show num (adjOf E k) = fa from hfa, hnk.out] at hand
        obtain ⟨D, hD⟩ : ∃ D, (fun u => adjOf E k u && s u) = D := ⟨_, rfl⟩
        rw [hD] at hand
        obtain ⟨dd, hdd⟩ : ∃ dd, num D = dd := ⟨_, rfl⟩
        rw [hdd] at hand
        obtain ⟨l, hl⟩ : ∃ l, sz D = l := ⟨_, rfl⟩
        have q54 := fun w => count_any hdd hl w
        by_cases hl1 : l = 1
        · subst hl1
          have hRf : Keep (R = false) := ⟨by
            cases e : R with
            | false => rfl
            | true => exact absurd (by rw [hD]; exact hl) ((hiff.out.1 e).2 k hlt hsk)⟩
          clear hb hp hp2 hq hsk hP hD hdd hl hfa
          go_wp2_with (first
            | (go_at_call 54; (with_reducible refine (q54 _).mono ?_); rintro e w5 ⟨rfl, hb5⟩
               have hI5 := Keep.mk (hI.out.2.trans (hb5.mono hI.out.2.size))
               clear hb5 q54))
          refine bodyPost_ret (v := .bool false) (by simp [results, Try.results47, go_sem]) rfl ?_
          exact ⟨by rw [hRf.out], hI5.out⟩
        · have hl1' : ((l : Int) == 1) = false := by rw [beq_eq_false_iff_ne]; omega
          have hP2 : Keep (∀ p, p < k + 1 → s p = false → sz (fun u => adjOf E p u && s u) ≠ 1) := ⟨fun p hp hf => by
            by_cases e : p = k
            · subst e; rw [hD, hl]; exact hl1
            · exact hP.out p (by omega) hf⟩
          clear hb hp hp2 hq hsk hP hD hdd hl hfa hl1
          go_wp2_with (first
            | (go_at_call 54; (with_reducible refine (q54 _).mono ?_); rintro e w5 ⟨rfl, hb5⟩
               have hI5 : Keep (NumsAt w5 G N 3 (nearOf E) ∧ Below w.heap.size w w5) := ⟨hI.out.1.below hb5 hI.out.1.lt, hI.out.2.trans (hb5.mono hI.out.2.size)⟩
               clear hb5 q54 hI))
          exact ⟨⟨k + 1, by omega, by go_num, hP2, hI5⟩, by simp [intOf]; omega⟩
    · obtain rfl : k = N := by omega
      have hlt' : ¬ (k : Int) < (k : Int) := by omega
      by_cases hn0 : 0 < n
      · have hRt : Keep (R = true) := ⟨hiff.out.2 ⟨hpos.out.1 hn0, hP.out⟩⟩
        have hn0' : (0 : Int) < (n : Int) := by omega
        go_wp2
        refine bodyPost_ret (v := .bool true) (by simp [results, Try.results47, go_sem]) rfl ?_
        exact ⟨by rw [hRt.out], hI.out.2⟩
      · have hRf : Keep (R = false) := ⟨by
          cases e : R with
          | false => rfl
          | true => exact absurd (hpos.out.2 (hiff.out.1 e).1) hn0⟩
        obtain rfl : n = 0 := by omega
        go_wp2
        refine bodyPost_ret (v := .bool false) (by simp [results, Try.results47, go_sem]) rfl ?_
        exact ⟨by rw [hRf.out], hI.out.2⟩
end Go.Proofs.Yteekigpdiklppaa
