/- Equal awards of the program: rule 1. -/
import Derived.Test.YtbocmbhinjkjlaaHalves
set_option linter.unusedSimpArgs false
set_option linter.unusedVariables false
namespace Go.Proofs.Ytbocmbhinjkjlaa
open Go Go.Proofs Go.RowKit Go.Seq Go.Sort
def levF (zs : List Int) (N L : Int) (i : Nat) : Int × Int := (redN (partF zs N L i) N, redD (partF zs N L i) N)
set_option maxHeartbeats 4000000 in
set_option maxRecDepth 100000 in
theorem equalAwards_any {H : Nat} {v E0 S0 : Value} {zs : List Int} {E : Int} {w : World} (hg : Own3 w H v (.int .i64 E) S0) (hc : IntsO w v zs) (hV : Valid zs) (hE : 0 ≤ E ∧ E ≤ zs.sum) :
    Calls Try.prog 92 #[.pointer (some ⟨H, 0, none⟩)] w fun e w' => ∃ (G : Nat) (N L : Int), e = .returned (.slice (some ⟨G, 0, none⟩) zs.length zs.length) ∧ Lev zs E N L ∧ w.heap.size ≤ G ∧ RowF w' G zs.length (levF zs N L) zs.length ∧ Below w.heap.size w w' := by
  have q111 := level_any hg hc hV hE
  have h1c := hg.c1
  have hmk := fun w => made24 (N := zs.length) (by have := hV.2.1; omega) w
  have hVK := Keep.mk hV
  have hEK := Keep.mk hE
  obtain ⟨n, hn⟩ : ∃ n, Keep (zs.length = n) := ⟨_, ⟨rfl⟩⟩
  have hn10 : n ≤ 10 := by have := hV.2.1; have := hn.out; omega
  rw [hn.out] at q111 hmk ⊢
  clear hg hc hV hE
  go_enter Try.func92, Try.ntmps92
  go_wp2_with (go_at_call 111; (with_reducible refine q111.mono ?_); rintro e w1 ⟨G1, N, L, rfl, hlev, hG1, hrow, hb1⟩
               have hbd := hlev.bounds hVK.out hEK.out
               have hrow0 : RowF (w1.alloc (.cells (fracZ n) 37)) w1.heap.size n (levF zs N L) 0 := RowF.start
               have hbA : Below w1.heap.size w1 (w1.alloc (.cells (fracZ n) 37)) := (Below.refl _ _).alloc (Nat.le_refl _) _
               have hlK := Keep.mk hlev
               have hrK := Keep.mk hrow
               clear q111 hlev hrow)
  go_loopw [22] (fun i wq => ∃ k : Nat, k ≤ n ∧ i = .int .i64 k ∧ Below w1.heap.size w1 wq ∧ RowF wq w1.heap.size n (levF zs N L) k) (fun i _ => n - (intOf i).toNat)
  case atStart => exact ⟨0, by omega, rfl, hbA, hrow0⟩
  case round =>
    obtain ⟨k, hk, rfl, hbk, hrow⟩ := hrel
    have hbkz := hbk.size
    by_cases hkn : k < n
    · have hkn' : (k : Int) < (n : Int) := by omega
      have hc1 := cell_below (hrK.out.cell hkn) hbk
      have hpf : Keep (levF zs N L k = (redN (partF zs N L k) N, redD (partF zs N L k) N)) := ⟨rfl⟩
      have hzb := hVK.out.2.2 _ (getz (zs := zs) (k := k) (by have := hn.out; omega))
      have hpb : -100000 ≤ partF zs N L k ∧ partF zs N L k ≤ 100000 := by
        have hm := mul_in (a := zs.getD k 0) (b := N) (A := 1000) (B := 10) hzb.1 hzb.2 (by omega) (by omega)
        unfold partF
        split <;> omega
      have q96 := fun w => lowest_any (partF zs N L k) N (by omega) (by omega) (by omega) (by omega) w
      have hst := fun W (h : RowF W w1.heap.size n (levF zs N L) k) => h.store hkn
      rw [hpf.out] at hst
      generalize partF zs N L k = P at *
      obtain ⟨x0, hx0⟩ : ∃ x, Keep (redN P N = x) := ⟨_, ⟨rfl⟩⟩
      obtain ⟨x1, hx1⟩ : ∃ x, Keep (redD P N = x) := ⟨_, ⟨rfl⟩⟩
      rw [hx0.out, hx1.out] at q96 hst
      unfold fracV at q96
      clear hpf hzb hpb hx0 hx1
      go_wp2_with (go_at_call 96; (with_reducible refine (q96 _).mono ?_); rintro e w5 ⟨rfl, hb5⟩
                   have hrow5 := hrow.after hb5
                   have hst5 := hst _ hrow5
                   have hb15 := hbk.trans (hb5.mono hbkz)
                   obtain ⟨⟨u0, hu0⟩, hf0⟩ := hrow5.can (i := k * 2) (by omega)
                   obtain ⟨⟨u1, hu1⟩, hf1⟩ := hrow5.can (i := k * 2 + 1) (by omega)
                   clear hb5)
      exact ⟨⟨k + 1, by omega, by go_num, (hb15.setCell (p := ⟨w1.heap.size, k * 2, none⟩) (Nat.le_refl _) _).setCell (p := ⟨w1.heap.size, k * 2 + 1, none⟩) (Nat.le_refl _) _, hst5⟩, by simp [intOf]; omega⟩
    · obtain rfl : k = n := by omega
      go_wp2
      go_ret
      exact ⟨w1.heap.size, N, L, rfl, hlK.out, hb1.size, hrow, hb1.trans (hbk.mono hb1.size)⟩
end Go.Proofs.Ytbocmbhinjkjlaa
