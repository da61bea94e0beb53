import Derived.Test.YtifbiamfandjnaaLawMirrors
set_option linter.unusedSimpArgs false
set_option linter.unusedVariables false
namespace Go.Proofs.Ytifbiamfandjnaa
open Go Go.Proofs Go.RowKit
theorem mirrors_any {b k n d : Int} (hn : In64 n) (hd : In64 d) (w : World) :
    Calls Try.prog 6 #[.int .i64 b, .int .i64 k, fracV n d] w fun e w' => e = .returned (.bool true) ∧ Below w.heap.size w w' := by
  cases hb : baseB b with
  | false => exact mirrors_b0 hb hn hd w
  | true =>
    have hbb : 2 ≤ b ∧ b ≤ 16 := of_decide_eq_true hb
    obtain ⟨b', rfl⟩ : ∃ m : Nat, b = m := ⟨b.toNat, by omega⟩
    have hb1 : 2 ≤ b' := by omega
    have hb2 : b' ≤ 16 := by omega
    by_cases hk : k < 0 ∨ 1000000 < k
    · cases hv : validB n d with
      | false => exact mirrors_ninv hb1 hb2 hk hn hd hv w
      | true =>
        by_cases hr : n < 0 ∨ d ≤ n
        · exact mirrors_nrng hb1 hb2 hk hn hd hv hr w
        · obtain ⟨n', rfl⟩ : ∃ m : Nat, n = m := ⟨n.toNat, by omega⟩
          obtain ⟨d', rfl⟩ : ∃ m : Nat, d = m := ⟨d.toNat, by omega⟩
          cases hR : backR b' n' d' with
          | none => exact mirrors_nnone hb1 hb2 hk hd hv (by omega) hR w
          | some z => exact mirrors_nsome hb1 hb2 hk hd hv (by omega) hR w
    · obtain ⟨k', rfl⟩ : ∃ m : Nat, k = m := ⟨k.toNat, by omega⟩
      have hk' : k' ≤ 1000000 := by omega
      cases hv : validB n d with
      | false => exact mirrors_yinv hb1 hb2 hk' hn hd hv w
      | true =>
        by_cases hr : n < 0 ∨ d ≤ n
        · exact mirrors_yrng hb1 hb2 hk' hn hd hv hr w
        · obtain ⟨n', rfl⟩ : ∃ m : Nat, n = m := ⟨n.toNat, by omega⟩
          obtain ⟨d', rfl⟩ : ∃ m : Nat, d = m := ⟨d.toNat, by omega⟩
          cases hR : backR b' n' d' with
          | none => exact mirrors_ynone hb1 hb2 hk' hd hv (by omega) hR w
          | some z => exact mirrors_ysome hb1 hb2 hk' hd hv (by omega) hR w
end Go.Proofs.Ytifbiamfandjnaa
