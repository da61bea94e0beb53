import Derived.Test.YteekigpdiklppaaWForce
set_option linter.unusedSimpArgs false
set_option linter.unusedVariables false
namespace Go.Proofs.Yteekigpdiklppaa
open Go Go.Proofs Go.RowKit Go.Seq
structure AllI (w : World) (k : Nat) (W : World) : Prop where
  z : SetAt W w.heap.size (fun _ => false)
  x : SetAt W (w.heap.size + 1) (fun j => decide (j < k))
  bw : Below w.heap.size w W
set_option maxHeartbeats 2000000 in
set_option maxRecDepth 100000 in
theorem all_any {b n : Nat} {adj : Nat → Nat → Bool} {w : World} (hg : GraphAt w b n adj) (hn : n ≤ 12) : Calls Try.prog 84 #[.pointer (some ⟨b, 0, none⟩)] w fun e w' => e = .returned (setV (fun j => decide (j < n))) ∧ Below w.heap.size w w' := by
  obtain ⟨wa, hwa⟩ : ∃ wa, w.alloc (.cells (sc (fun _ => false)) 79) = wa := ⟨_, rfl⟩
  obtain ⟨wb, hwb⟩ : ∃ wb, wa.alloc (.cells (sc (fun _ => false)) 79) = wb := ⟨_, rfl⟩
  have sa : wa.heap.size = w.heap.size + 1 := by rw [← hwa]; simp
  have ba : Below w.heap.size w wa := by rw [← hwa]; exact (Below.refl _ _).alloc (Nat.le_refl _) _
  have bb : Below wa.heap.size wa wb := by rw [← hwb]; exact (Below.refl _ _).alloc (Nat.le_refl _) _
  have fa : SetAt wa w.heap.size (fun _ => false) := by rw [← hwa]; exact SetAt.new _ _
  have fb : SetAt wb (w.heap.size + 1) (fun _ => false) := by rw [← sa, ← hwb]; exact SetAt.new _ _
  have bw := ba.trans (bb.mono (by omega))
  have hI : Keep (AllI w 0 wb) := ⟨fa.after bb, by
    unfold SetAt at fb ⊢
    rw [fb, sc_ext (s := fun _ => false) (s' := fun j => decide (j < 0)) (fun j _ => by simp)], bw⟩
  have c0 := (hg.below bw hg.lt).size
  have hw : (w.alloc (.cells (sc (fun _ => false)) 79)).alloc (.cells (sc (fun _ => false)) 79) = wb := by rw [hwa, hwb]
  clear hwa hwb sa ba bb fa fb bw hg
  obtain ⟨F, hF⟩ : ∃ F : Nat → Bool, (fun j => decide (j < n)) = F := ⟨_, rfl⟩
  rw [hF]
  unfold setV sc at *
  go_enter Try.func84, Try.ntmps84
  go_wp2
  try rw [hw]
  clear hw
  go_loopw [9] (fun i wr => ∃ k : Nat, k ≤ n ∧ i = .int .i64 k ∧ Keep (AllI w k wr)) (fun i _ => n - (intOf i).toNat)
  case atStart => exact ⟨0, by omega, rfl, hI⟩
  case round =>
    obtain ⟨k, hk, rfl, hI⟩ := hrel
    by_cases hlt : k < n
    · have hlt' : (k : Int) < (n : Int) := by omega
      have hk12 : (k : Int) < 12 := by omega
      have nk : ¬ (k : Int) < 0 := by omega
      have hw1 : IntKind.i64.wrap ((k : Int) + 1) = (k : Int) + 1 := IntWalk.i64_in _ (by omega)
      obtain ⟨cx, fx⟩ := hI.out.x.cell (k := k) (by omega)
      have hI2 : AllI w (k + 1) (wr.setCell ⟨w.heap.size + 1, k, none⟩ (.bool true)) :=
        ⟨hI.out.z.other (by omega), hI.out.x.set (by omega) (by simp) (fun j _ hj => by
          by_cases e : j < k
          · rw [decide_eq_true e, decide_eq_true (by omega)]
          · rw [decide_eq_false e, decide_eq_false (by omega)]), hI.out.bw.setCell (p := ⟨w.heap.size + 1, k, none⟩) (by show w.heap.size ≤ w.heap.size + 1; omega) _⟩
      have hI2k := Keep.mk hI2
      clear hI2
      go_wp2
      exact ⟨⟨k + 1, by omega, by go_num, hI2k⟩, by simp [intOf]; omega⟩
    · obtain rfl : k = n := by omega
      have hlt' : ¬ (k : Int) < (k : Int) := by omega
      have hx := hI.out.x
      rw [hF] at hx
      obtain ⟨x0, x1, x2, x3, x4, x5, x6, x7, x8, x9, x10, x11⟩ := hx.c12
      obtain ⟨z0, z1, z2, z3, z4, z5, z6, z7, z8, z9, z10, z11⟩ := hI.out.z.c12
      obtain ⟨f0, f1, f2, f3, f4, f5, f6, f7, f8, f9, f10, f11⟩ := hI.out.z.f12
      have hbk := Keep.mk hI.out.bw
      clear hI hx
      go_wp2
      refine bodyPost_ret (v := .agg #[.bool (F 0), .bool (F 1), .bool (F 2), .bool (F 3), .bool (F 4), .bool (F 5), .bool (F 6), .bool (F 7), .bool (F 8), .bool (F 9), .bool (F 10), .bool (F 11)]) (by simp [results, Try.results84, go_sem]; try go_simp) rfl ?_
      refine ⟨rfl, ?_⟩
      iterate 12 (refine Below.setCell ?_ (by show w.heap.size ≤ w.heap.size; omega) _)
      exact hbk.out
end Go.Proofs.Yteekigpdiklppaa
