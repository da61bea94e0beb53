/- Heirs: reading them, in the program. -/
import Derived.Test.YtbocmbhinjkjlaaReg
set_option linter.unusedSimpArgs false
set_option linter.unusedVariables false
namespace Go.Proofs.Ytbocmbhinjkjlaa
open Go Go.Proofs Go.RowKit Go.Seq
/-- What a list of claims and an estate are. -/
def Valid (zs : List Int) : Prop := 1 ≤ zs.length ∧ zs.length ≤ 10 ∧ ∀ z ∈ zs, 0 ≤ z ∧ z ≤ 1000
set_option maxRecDepth 100000 in
theorem readHeirs_any {v : Value} {zs : List Int} {e : Int} {w : World} (hv : IntsO w v zs) (hV : Valid zs) :
    Calls Try.prog 62 #[v, .int .i64 e] w fun r w' => r = .returned (.tuple #[.pointer (some ⟨w.heap.size, 0, none⟩), .bool (decide (0 ≤ e ∧ e ≤ zs.sum))]) ∧ Below w.heap.size w w' ∧ BlkAt w' w.heap.size #[v, .int .i64 e, .int .i64 zs.sum] 122 := by
  obtain ⟨A, cap, rfl, hcell⟩ := hv
  obtain ⟨h1, h2, hc⟩ := hV
  have hb := sum_bound hc
  obtain ⟨SS, hS⟩ : ∃ S, Keep (zs.sum = S) := ⟨_, ⟨rfl⟩⟩
  rw [hS.out]
  obtain ⟨D, hD⟩ : ∃ D, Keep (decide (0 ≤ e ∧ e ≤ SS) = D) := ⟨_, ⟨rfl⟩⟩
  rw [hD.out]
  obtain ⟨wa, hwa⟩ : ∃ wa, w.alloc (.cells #[.slice A zs.length cap, .int .i64 e, .int .i64 0] 122) = wa := ⟨_, rfl⟩
  have hba : Below w.heap.size w wa := by rw [← hwa]; exact (Below.refl _ _).alloc (Nat.le_refl _) _
  have hga : BlkAt wa w.heap.size #[.slice A zs.length cap, .int .i64 e, .int .i64 0] 122 := by rw [← hwa]; exact BlkAt.new _ _ _
  have h1' : ¬ ((zs.length : Int) < 1) := by omega
  have h2' : ¬ ((10 : Int) < (zs.length : Int)) := by omega
  go_enter Try.func62, Try.ntmps62
  go_wp2
  try rw [hwa]
  go_loopw [23] (fun i wr => ∃ k : Nat, k ≤ zs.length ∧ i = .int .i64 k ∧ Below w.heap.size w wr ∧ BlkAt wr w.heap.size #[.slice A zs.length cap, .int .i64 e, .int .i64 (zs.take k).sum] 122) (fun i _ => zs.length - (intOf i).toNat)
  case atStart => exact ⟨0, by omega, rfl, hba, by simpa using hga⟩
  case round =>
    obtain ⟨k, hk, rfl, hbw, hg⟩ := hrel
    by_cases hlt : k < zs.length
    · obtain ⟨g, o, rfl, hz⟩ := hcell k hlt
      have hz := cell_below hz hbw
      have hzb := hc _ (getz hlt)
      have hs := hb k
      have c2 := hg.cell 2
      have f2 := hg.free 2
      simp only [List.getElem?_toArray, List.getElem?_cons_succ, List.getElem?_cons_zero] at c2
      have q := fun w => isClaim_any (zs.getD k 0) w
      rw [show claimB (zs.getD k 0) = true from decide_eq_true hzb] at q
      have e1 : IntKind.i64.wrap ((zs.take k).sum + zs.getD k 0) = (zs.take k).sum + zs.getD k 0 := IntWalk.i64_in _ (by omega)
      have hst := Keep.mk (sum_take hlt)
      generalize zs.getD k 0 = z at *
      generalize (zs.take k).sum = S at *
      clear hs hb hc hzb
      go_wp2_with (go_at_call 90; refine (q _).mono ?_; rintro e w5 ⟨rfl, rfl⟩)
      refine ⟨⟨k + 1, by omega, by go_num, hbw.setCell (p := ⟨w.heap.size, 2, none⟩) (Nat.le_refl _) _, ?_⟩, by simp [intOf]; omega⟩
      rw [hst.out]
      exact hg.set 2 _
    · obtain rfl : k = zs.length := by omega
      rw [List.take_length, hS.out] at hg
      have c2 := hg.cell 2
      simp only [List.getElem?_toArray, List.getElem?_cons_succ, List.getElem?_cons_zero] at c2
      clear hb hc hcell
      by_cases k1 : 0 ≤ e
      · have hDG : Keep (decide (e ≤ SS) = D) := ⟨by rw [← hD.out]; by_cases h : e ≤ SS <;> simp [h, k1]⟩
        go_wp2
        go_quiet (fail)
        go_wp2
        refine bodyPost_ret (v := .tuple #[.pointer (some ⟨w.heap.size, 0, none⟩), .bool D]) (by rw [← hDG.out]; simp [results, Try.results62, go_sem]) rfl ?_
        exact ⟨rfl, below_drewN hbw _, hg⟩
      · have hk1 : decide (0 ≤ e) = false := by simp [k1]
        have hDG : Keep (D = false) := ⟨by rw [← hD.out]; simp [k1]⟩
        go_wp2
        refine (wpIn_wide (n := 0)).1 ?_
        refine Many.region_many (Cq wr) mixed_ok (by kernel_rfl) (fun _ _ _ _ h => h) (fun s hs => ⟨1, rfl⟩) ?_
        iterate 2
          (refine Many.lex_want (by rfl) (rd (fun q => by (go_simp; try rfl))) ?_
           simp only [Act.put, List.setIfInBounds_toArray, List.set_cons_succ, List.set_cons_zero, Nat.reduceAdd])
        refine Many.lex_want (by rfl) (rd (v := .bool false) (fun q => by (go_simp; try simp [hk1]))) ?_
        simp only [Act.put, List.setIfInBounds_toArray, List.set_cons_succ, List.set_cons_zero, Nat.reduceAdd]
        iterate 1
          (refine Many.lex_want (by rfl) (rd (fun q => by (go_simp; try rfl))) ?_
           simp only [Act.put, List.setIfInBounds_toArray, List.set_cons_succ, List.set_cons_zero, Nat.reduceAdd])
        iterate 6
          (refine lex_skip (by rfl) Cq.keep ?_
           simp only [Act.put, List.setIfInBounds_toArray, List.set_cons_succ, List.set_cons_zero, Nat.reduceAdd])
        iterate 3
          (refine Many.lex_want (by rfl) (rd (fun q => by (go_simp; try rfl))) ?_
           simp only [Act.put, List.setIfInBounds_toArray, List.set_cons_succ, List.set_cons_zero, Nat.reduceAdd])
        refine Many.lex_nil fun s W' hs hC => ?_
        obtain ⟨q9, rfl⟩ := hC
        go_wp2
        refine bodyPost_ret (v := .tuple #[.pointer (some ⟨w.heap.size, 0, none⟩), .bool D]) (by rw [hDG.out]; simp [results, Try.results62, go_sem]) rfl ?_
        exact ⟨rfl, below_drewN hbw _, hg⟩
end Go.Proofs.Ytbocmbhinjkjlaa
