import Derived.Test.YteekigpdiklppaaWMath
set_option linter.unusedSimpArgs false
set_option linter.unusedVariables false
namespace Go.Proofs.Yteekigpdiklppaa
open Go Go.Proofs Go.RowKit
theorem drewN_add (w : World) (n m : Nat) : (w.drewN n).drewN m = w.drewN (n + m) := by simp [World.drewN, Nat.add_assoc]
theorem getz {zs : List Int} {k : Nat} (h : k < zs.length) : zs.getD k 0 ∈ zs := by
  rw [List.getD_eq_getElem?_getD, List.getElem?_eq_getElem h]; exact List.getElem_mem _
theorem take_ne {a b : List Int} {k : Nat} (ha : k < a.length) (hb : k < b.length) (h : a.getD k 0 ≠ b.getD k 0) : a ≠ b := by
  rintro rfl; exact h rfl
theorem ints_own {w : World} {B : Nat} {v : Value} {l : List Int} (h : w.ownsRow B 3 1 v l.length (l.map vz)) : IntsO w v l := by
  obtain ⟨h1, h2⟩ := h
  rcases h2 with ⟨rfl, h0⟩ | ⟨g, cap, cur, rfl, hg, hh, hn, hcap, hsz, htake⟩
  · exact ⟨none, 0, by rw [h0], fun k hk => by omega⟩
  · refine ⟨_, cap, rfl, fun k hk => ⟨g, 0, rfl, ?_⟩⟩
    have : cur[k]? = some (.int .i64 (l.getD k 0)) := by
      have e : (cur.toList.take (l.length * 1))[k]? = (l.map vz)[k]? := by rw [htake]
      rw [List.getElem?_take_of_lt (by omega), List.getElem?_map, List.getElem?_eq_getElem hk] at e
      rw [← Array.getElem?_toList, e]
      simp [vz, List.getD, hk]
    rw [Nat.zero_add]
    simp [World.cell?, hh, this]
/-- The places of a set, as ints. -/
def zsOf (s : Nat → Bool) : List Int := (vsTo s 12).map fun (u : Nat) => (u : Int)
theorem ints_list {w : World} {B : Nat} {v : Value} {s : Nat → Bool} (h : w.ownsRow B 3 1 v (vsTo s 12).length ((vsTo s 12).map ik)) : IntsO w v (zsOf s) := by
  refine ints_own (B := B) ?_
  have e : (zsOf s).map vz = (vsTo s 12).map ik := by unfold zsOf; rw [List.map_map]; rfl
  rw [e]; simpa [zsOf] using h
set_option maxRecDepth 100000 in
theorem ints_any {a b : Value} {za zb : List Int} {w : World} (ha : IntsO w a za) (hb : IntsO w b zb) (hl : za.length ≤ 100000) :
    Calls Try.prog 27 #[a, b] w fun e w' => e = .returned (.bool (decide (za = zb))) ∧ ∃ n, w' = w.drewN n := by
  obtain ⟨A, cap, rfl, hca⟩ := ha
  obtain ⟨A', cap', rfl, hcb⟩ := hb
  obtain ⟨D, hD⟩ : ∃ D, Keep (decide (za = zb) = D) := ⟨_, ⟨rfl⟩⟩
  rw [hD.out]
  go_enter Try.func27, Try.ntmps27
  by_cases hlen : ¬ za.length = zb.length
  · have hd : decide (za = zb) = false := decide_eq_false (fun e => hlen (by rw [e]))
    have hne : ((za.length : Int) == (zb.length : Int)) = false := by
      rw [beq_eq_false_iff_ne]; intro h; exact hlen (by omega)
    clear hca hcb
    go_wp2
    go_ret
    exact ⟨by rw [← hD.out, hd]; rfl, 0, rfl⟩
  have hlen : za.length = zb.length := by omega
  rw [← hlen] at hcb ⊢
  go_wp2
  go_loopw [5] (fun i wr => (∃ k : Nat, k ≤ za.length ∧ i = .int .i64 k ∧ za.take k = zb.take k) ∧ ∃ n, wr = w.drewN n) (fun i _ => za.length - (intOf i).toNat)
  case atStart => exact ⟨⟨0, by omega, rfl, by simp⟩, 0, rfl⟩
  case round =>
    obtain ⟨⟨k, hk, rfl, htk⟩, n, rfl⟩ := hrel
    by_cases hlt : k < za.length
    · obtain ⟨g, o, rfl, h1⟩ := hca k hlt
      obtain ⟨g', o', rfl, h2⟩ := hcb k hlt
      have hlt' : k < zb.length := by omega
      clear hca hcb
      by_cases he : za.getD k 0 = zb.getD k 0
      · have htk' : za.take (k + 1) = zb.take (k + 1) := by rw [takez hlt, takez hlt', htk, he]
        rw [← he] at h2
        clear he htk
        generalize za.getD k 0 = z at h1 h2
        have hzz : (z != z) = false := by simp
        go_wp2
        go_quiet (fail)
        go_wp2
        exact ⟨⟨⟨k + 1, by omega, by go_num, htk'⟩, n + nq, by first | rfl | exact drewN_add _ _ _⟩, by simp [intOf]; omega⟩
      · have hd : decide (za = zb) = false := decide_eq_false (take_ne hlt hlt' he)
        have he' : (za.getD k 0 == zb.getD k 0) = false := by simpa using he
        clear he htk
        generalize za.getD k 0 = z at h1 he'
        generalize zb.getD k 0 = z' at h2 he'
        have hzz : (z != z') = true := by simpa [bne] using he'
        go_wp2
        go_quiet (fail)
        go_wp2
        go_ret
        exact ⟨by rw [← hD.out, hd]; rfl, n + nq, by first | rfl | exact drewN_add _ _ _⟩
    · have : k = za.length := by omega
      subst this
      have hd : decide (za = zb) = true := decide_eq_true (by rw [List.take_length, hlen, List.take_length] at htk; exact htk)
      clear htk
      go_wp2
      go_ret
      exact ⟨by rw [← hD.out, hd]; rfl, n, rfl⟩
end Go.Proofs.Yteekigpdiklppaa
