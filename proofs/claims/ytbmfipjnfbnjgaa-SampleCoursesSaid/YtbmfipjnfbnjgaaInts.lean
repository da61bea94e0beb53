import Derived.Test.YtbmfipjnfbnjgaaGrow
set_option linter.unusedSimpArgs false
set_option linter.unusedVariables false
namespace Go.Proofs.Ytbmfipjnfbnjgaa
open Go Go.Proofs Go.RowKit Go.Sample
def IntsO (w : World) (v : Value) (zs : List Int) : Prop :=
  ∃ A cap, v = .slice A zs.length cap ∧ ∀ k, k < zs.length → ∃ g o, A = some ⟨g, o, none⟩ ∧ w.cell? ⟨g, o + k, none⟩ = some (.int .i64 (zs.getD k 0))
theorem getz {zs : List Int} {k : Nat} (h : k < zs.length) : zs.getD k 0 ∈ zs := by
  rw [List.getD_eq_getElem?_getD, List.getElem?_eq_getElem h]; exact List.getElem_mem _
theorem takez {zs : List Int} {k : Nat} (h : k < zs.length) : zs.take (k + 1) = zs.take k ++ [zs.getD k 0] := by
  rw [List.take_add_one, List.getElem?_eq_getElem h, List.getD_eq_getElem?_getD, List.getElem?_eq_getElem h]; rfl
theorem take_ne {a b : List Int} {k : Nat} (ha : k < a.length) (hb : k < b.length) (h : a.getD k 0 ≠ b.getD k 0) : a ≠ b := by
  rintro rfl; exact h rfl
theorem intsO_below {w w' : World} {v : Value} {l : List Int} (h : IntsO w v l) (b : Below w.heap.size w w') : IntsO w' v l := by
  obtain ⟨A, cap, hv, hc⟩ := h
  refine ⟨A, cap, hv, fun k hk => ?_⟩
  obtain ⟨g, o, hA, hg⟩ := hc k hk
  exact ⟨g, o, hA, cell_below hg b⟩
set_option maxRecDepth 100000 in
theorem ints_any {a b : Value} {za zb : List Int} {w : World} (ha : IntsO w a za) (hb : IntsO w b zb) (hl : za.length ≤ 100000) :
    Calls Try.prog 44 #[a, b] w fun e w' => e = .returned (.bool (decide (za = zb))) ∧ ∃ n, w' = w.drewN n := by
  obtain ⟨A, cap, rfl, hca⟩ := ha
  obtain ⟨A', cap', rfl, hcb⟩ := hb
  obtain ⟨D, hD⟩ : ∃ D, Keep (decide (za = zb) = D) := ⟨_, ⟨rfl⟩⟩
  rw [hD.out]
  go_enter Try.func44, Try.ntmps44
  by_cases hlen : ¬ za.length = zb.length
  · have hd : decide (za = zb) = false := decide_eq_false (fun e => hlen (by rw [e]))
    have hne : ((za.length : Int) == (zb.length : Int)) = false := by
      rw [beq_eq_false_iff_ne]; intro h; exact hlen (by omega)
    clear hca hcb
    go_wp2
    go_ret
    exact ⟨by rw [← hD.out, hd]; rfl, 0, rfl⟩
  have hlen : za.length = zb.length := by omega
  rw [← hlen] at hcb ⊢
  go_wp2
  go_loopw [5] (fun i wr => (∃ k : Nat, k ≤ za.length ∧ i = .int .i64 k ∧ za.take k = zb.take k) ∧ ∃ n, wr = w.drewN n) (fun i _ => za.length - (intOf i).toNat)
  case atStart => exact ⟨⟨0, by omega, rfl, by simp⟩, 0, rfl⟩
  case round =>
    obtain ⟨⟨k, hk, rfl, htk⟩, n, rfl⟩ := hrel
    by_cases hlt : k < za.length
    · obtain ⟨g, o, rfl, h1⟩ := hca k hlt
      obtain ⟨g', o', rfl, h2⟩ := hcb k hlt
      have hlt' : k < zb.length := by omega
      clear hca hcb
      by_cases he : za.getD k 0 = zb.getD k 0
      · have htk' : za.take (k + 1) = zb.take (k + 1) := by rw [takez hlt, takez hlt', htk, he]
        rw [← he] at h2
        clear he htk
        generalize za.getD k 0 = z at h1 h2
        have hzz : (z != z) = false := by simp
        go_wp2
        go_quiet (fail)
        go_wp2
        exact ⟨⟨⟨k + 1, by omega, by go_num, htk'⟩, n + nq, by first | rfl | exact drewN_add _ _ _⟩, by simp [intOf]; omega⟩
      · have hd : decide (za = zb) = false := decide_eq_false (take_ne hlt hlt' he)
        have he' : (za.getD k 0 == zb.getD k 0) = false := by simpa using he
        clear he htk
        generalize za.getD k 0 = z at h1 he'
        generalize zb.getD k 0 = z' at h2 he'
        have hzz : (z != z') = true := by simpa [bne] using he'
        go_wp2
        go_quiet (fail)
        go_wp2
        go_ret
        exact ⟨by rw [← hD.out, hd]; rfl, n + nq, by first | rfl | exact drewN_add _ _ _⟩
    · have : k = za.length := by omega
      subst this
      have hd : decide (za = zb) = true := decide_eq_true (by rw [List.take_length, hlen, List.take_length] at htk; exact htk)
      clear htk
      go_wp2
      go_ret
      exact ⟨by rw [← hD.out, hd]; rfl, n, rfl⟩
end Go.Proofs.Ytbmfipjnfbnjgaa
