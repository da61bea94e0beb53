import Derived.Test.YtbmfipjnfbnjgaaEnds
set_option linter.unusedSimpArgs false
set_option linter.unusedVariables false
namespace Go.Sample
def sumTo (f : Nat → Nat) : Nat → Nat
  | 0 => 0
  | n + 1 => sumTo f n + f n
theorem sumTo_le {f : Nat → Nat} {B : Nat} (h : ∀ k, f k ≤ B) : ∀ n, sumTo f n ≤ n * B
  | 0 => by simp [sumTo]
  | n + 1 => by have := sumTo_le h n; have := h n; rw [sumTo, Nat.succ_mul]; omega
theorem tabE_le (N d : Nat) (A R : Nat → Int) {L : Nat} (hL : L ≤ N) (j : Nat) : tabE N d A R L 0 j ≤ ch N d := by
  have hy : ∀ j, tabY N d A R L 0 j ≤ ch N d := fun j => by
    unfold tabY
    split
    · have := both_ch N d A R (i := j - 1) (by omega) (j - 1 + 2)
      unfold yes; omega
    · split <;> simp [yesTo]
  have hn : ∀ j, tabN N d A R L 0 j ≤ ch N d := fun j => by
    unfold tabN
    split
    · have := both_ch N d A R (i := j - 1) (by omega) (j - 1 + 2)
      unfold no; omega
    · split <;> simp [noTo]
  unfold tabE
  split
  · exact hy j
  · exact hn _
/-- The ways in which a course accepts, and the pieces examined in all ways. -/
def accAll (N d : Nat) (A R : Nat → Int) (L : Nat) : Nat := sumTo (fun i => tabE N d A R L 0 i) (N + 1)
def exAll (N d : Nat) (A R : Nat → Int) (L : Nat) : Nat := sumTo (fun i => i * (tabE N d A R L 0 i + tabE N d A R L 0 (37 + i))) (N + 1)
end Go.Sample
namespace Go.Proofs.Ytbmfipjnfbnjgaa
open Go Go.Proofs Go.RowKit Go.Sample
structure OutI (w : World) (b N G : Nat) (E : Nat → Nat) (W : World) : Prop where
  P : Pieces W b N
  o1 : Own2 W (w.heap.size + 1) (.int .i64 0) (.int .i64 0)
  o2 : Own2 W (w.heap.size + 1 + 1) (.int .i64 0) (.int .i64 0)
  e : NumsAt W G 74 114 E
  bw : Below w.heap.size w W
theorem OutI.drewN {w W : World} {b N G : Nat} {E : Nat → Nat} (h : OutI w b N G E W) (n : Nat) : OutI w b N G E (W.drewN n) :=
  ⟨h.P.drewN n, ⟨h.o1.c0, h.o1.c1, h.o1.f0, h.o1.f1⟩, ⟨h.o2.c0, h.o2.c1, h.o2.f0, h.o2.f1⟩, h.e.same rfl, below_drewN h.bw n⟩
theorem OutI.mk6 {w w0 w5 : World} {b N : Nat} {E : Nat → Nat} {EC : Array Value} (hP : Pieces w0 b N) (hO1 : Own2 w0 (w.heap.size + 1) (.int .i64 0) (.int .i64 0)) (hO2 : Own2 w0 (w.heap.size + 1 + 1) (.int .i64 0) (.int .i64 0)) (bw : Below w.heap.size w w0) (hb : Below w0.heap.size w0 w5)
    (hs : EC.size = 74) (he : ∀ j, j < 74 → EC[j]? = some (.int .i64 (E j : Nat))) : OutI w b N w5.heap.size E ((w5.alloc (.cells Try.zeroCells114 114)).setRow w5.heap.size EC) := by
  have hr5 : (w5.alloc (.cells Try.zeroCells114 114)).heap[w5.heap.size]? = some (.cells Try.zeroCells114 114 (0, 0)) := World.alloc_heap_new w5 _
  have hb6 : Below w5.heap.size w5 ((w5.alloc (.cells Try.zeroCells114 114)).setRow w5.heap.size EC) := below_setRow ((Below.refl _ w5).alloc (Nat.le_refl _) _) (Nat.le_refl _) _
  have hb06 : Below w0.heap.size w0 _ := hb.trans (hb6.mono hb.size)
  exact ⟨hP.below hb06 hP.lt, hO1.after hb06, hO2.after hb06, ⟨EC, setRow_heap _ _ _ EC 114 (0, 0) hr5, hs, he⟩, bw.trans (hb06.mono bw.size)⟩
set_option maxHeartbeats 2000000 in
set_option maxRecDepth 100000 in
theorem outcome_any {b N d : Nat} {c : Crs} {w : World} (hP : Pieces w b N) (hd : d ≤ N) (hc : CrsIn w c) (l1 : 1 ≤ c.L) (l2 : c.L ≤ N) :
    Calls Try.prog 58 #[.pointer (some ⟨b, 0, none⟩), .int .i64 d, c.val] w fun e w' => e = .returned (.tuple #[redV (accAll N d c.A c.R c.L) (ch N d), redV (exAll N d c.A c.R c.L) (ch N d)]) ∧ Below w.heap.size w w' := by
  have h36 := hP.h36
  have hlb := hP.lt
  have hga : c.ga < w.heap.size := cell_lt (hc.las 0 (by omega))
  have hgr : c.gr < w.heap.size := cell_lt (hc.lrs 0 (by omega))
  have hlek := Keep.mk (tabE_le N d c.A c.R l2)
  have hch := ch_le h36 d
  obtain ⟨wa, hwa⟩ : ∃ wa, w.alloc (.cells #[c.sa, c.sr] 42) = wa := ⟨_, rfl⟩
  obtain ⟨wb, hwb⟩ : ∃ wb, wa.alloc (.cells #[.int .i64 0, .int .i64 0] 27) = wb := ⟨_, rfl⟩
  obtain ⟨w0, hw0⟩ : ∃ w0, wb.alloc (.cells #[.int .i64 0, .int .i64 0] 27) = w0 := ⟨_, rfl⟩
  have hw0' : (((w.alloc (.cells #[c.sa, c.sr] 42)).alloc (.cells #[.int .i64 0, .int .i64 0] 27)).alloc (.cells #[.int .i64 0, .int .i64 0] 27)) = w0 := by rw [hwa, hwb, hw0]
  have sa : wa.heap.size = w.heap.size + 1 := by rw [← hwa]; simp
  have sb : wb.heap.size = w.heap.size + 1 + 1 := by rw [← hwb]; simp [sa]
  have s0 : w0.heap.size = w.heap.size + 3 := by rw [← hw0]; simp [sb]
  have ba : Below w.heap.size w wa := by rw [← hwa]; exact (Below.refl _ _).alloc (Nat.le_refl _) _
  have bb : Below wa.heap.size wa wb := by rw [← hwb]; exact (Below.refl _ _).alloc (Nat.le_refl _) _
  have b0 : Below wb.heap.size wb w0 := by rw [← hw0]; exact (Below.refl _ _).alloc (Nat.le_refl _) _
  have bb0 : Below wa.heap.size wa w0 := bb.trans (b0.mono (by omega))
  have bw0 : Below w.heap.size w w0 := ba.trans (bb0.mono (by omega))
  have hB0 : CrsBox w0 w.heap.size c := by
    have := CrsBox.new hc 42
    rw [hwa] at this
    exact this.after bb0
  have hO1 : Own2 w0 (w.heap.size + 1) (.int .i64 0) (.int .i64 0) := by
    have := Own2.new wa (.int .i64 0) (.int .i64 0) 27
    rw [hwb, sa] at this
    exact this.after b0
  have hO2 : Own2 w0 (w.heap.size + 1 + 1) (.int .i64 0) (.int .i64 0) := by
    have := Own2.new wb (.int .i64 0) (.int .i64 0) 27
    rw [hw0, sb] at this
    exact this
  have hP0 : Pieces w0 b N := hP.below bw0 hlb
  have hends := ends_any hP0 hd hB0.inn l1 l2
  clear hwa hwb hw0 ba bb b0 bb0 sa sb
  obtain ⟨EC, hEC⟩ : ∃ EC, Keep (endsCells N d c.A c.R c.L = EC) := ⟨_, ⟨rfl⟩⟩
  have hECs : EC.size = 74 := by rw [← hEC.out]; simp [endsCells]
  have hECa : Keep (∀ j, j < 74 → EC[j]? = some (.int .i64 (tabE N d c.A c.R c.L 0 j : Nat))) := ⟨fun j hj => by rw [← hEC.out]; simp [endsCells, hj]⟩
  have hone : EC.all (·.oneCell') = true := by
    rw [← hEC.out, Array.all_eq_true]
    intro j hj
    simp [endsCells, Value.oneCell']
  have hi114 : (Try.prog.info? 114).map (·.size) = some EC.size := by rw [hECs]; kernel_rfl
  have hsz : Try.zeroCells114.size = EC.size := by rw [hECs]; kernel_rfl
  rw [hEC.out] at hends
  obtain ⟨⟨d0, d1, _, _⟩, _⟩ := hB0
  unfold Crs.val Crs.sa Crs.sr at *
  go_enter Try.func58, Try.ntmps58
  go_wp2_with (first
    | (go_at_call 64; refine hends.mono ?_; rintro e w5 ⟨rfl, hb5⟩
       have hr5 : (w5.alloc (.cells Try.zeroCells114 114)).heap[w5.heap.size]? = some (.cells Try.zeroCells114 114 (0, 0)) := World.alloc_heap_new w5 _
       have X5 : Keep (Below w0.heap.size w0 w5) := ⟨hb5⟩
       clear hb5)
    | (refine wpList_store_row rfl 114 _ _ rfl w5.heap.size EC rfl rfl 114 _ hr5 hi114 hsz hone ?_
       have hI := OutI.mk6 hP0 hO1 hO2 bw0 X5.out hECs hECa.out
       obtain ⟨W6, hW6⟩ : ∃ W6, (w5.alloc (.cells Try.zeroCells114 114)).setRow w5.heap.size EC = W6 := ⟨_, rfl⟩
       rw [hW6] at hI ⊢
       have c6 := hI.P.tab.size
       clear hW6 hr5))
  obtain ⟨G, hG⟩ : ∃ G, w5.heap.size = G := ⟨_, rfl⟩
  rw [hG] at hI ⊢
  clear hG
  obtain ⟨E, hE⟩ : ∃ E, tabE N d c.A c.R c.L 0 = E := ⟨_, rfl⟩
  have hacc : Keep (accAll N d c.A c.R c.L = sumTo (fun i => E i) (N + 1)) := ⟨by rw [← hE]; rfl⟩
  have hex : Keep (exAll N d c.A c.R c.L = sumTo (fun i => i * (E i + E (37 + i))) (N + 1)) := ⟨by rw [← hE]; rfl⟩
  have hEle : ∀ j, E j ≤ 9075135300 := fun j => by rw [← hE]; exact Nat.le_trans (hlek.out j) hch
  have hElk := Keep.mk hEle
  rw [hE] at hI
  clear hE hEle
  have hS1 : Keep (∀ k, k ≤ 37 → sumTo (fun i => E i) k ≤ 400000000000) := ⟨fun k hk => Nat.le_trans (sumTo_le hElk.out k) (by have := Nat.mul_le_mul hk (Nat.le_refl 9075135300); omega)⟩
  have hS2 : Keep (∀ k, k ≤ 37 → sumTo (fun i => i * (E i + E (37 + i))) k ≤ 40000000000000) := ⟨fun k hk => by
    have : ∀ k, k ≤ 37 → sumTo (fun i => i * (E i + E (37 + i))) k ≤ k * (36 * (2 * 9075135300)) := by
      intro k
      induction k with
      | zero => intro _; simp [sumTo]
      | succ k ih =>
        intro hk
        have h1 := ih (by omega)
        have h2 : k * (E k + E (37 + k)) ≤ 36 * (2 * 9075135300) := Nat.mul_le_mul (by omega) (by have := hElk.out k; have := hElk.out (37 + k); omega)
        simp only [sumTo]
        rw [Nat.succ_mul]; omega
    refine Nat.le_trans (this k hk) ?_
    have := Nat.mul_le_mul hk (Nat.le_refl (36 * (2 * 9075135300)))
    omega⟩
  go_loopw [9, 10, 21] (fun s t i wr => ∃ k : Nat, k ≤ N + 1 ∧ i = .int .i64 k ∧ s = .int .i64 (sumTo (fun i => E i) k : Nat) ∧ t = .int .i64 (sumTo (fun i => i * (E i + E (37 + i))) k : Nat) ∧ ∃ q, wr = W6.drewN q) (fun _ _ i _ => N + 1 - (intOf i).toNat)
  case atStart => exact ⟨0, by omega, rfl, rfl, rfl, 0, rfl⟩
  case round =>
    obtain ⟨k, hk, rfl, rfl, rfl, q, rfl⟩ := hrel
    by_cases hlt : k < N + 1
    · obtain ⟨a1, a2⟩ := hI.e.cell (j := k) (by omega)
      obtain ⟨b1, b2⟩ := hI.e.cell (j := 37 + k) (by omega)
      have n1 : Keep (sumTo (fun i => E i) (k + 1) = sumTo (fun i => E i) k + E k) := ⟨rfl⟩
      have n2 : Keep (sumTo (fun i => i * (E i + E (37 + i))) (k + 1) = sumTo (fun i => i * (E i + E (37 + i))) k + k * (E k + E (37 + k))) := ⟨rfl⟩
      have m1 := hS1.out k (by omega)
      have m2 := hS1.out (k + 1) (by omega)
      have m3 := hS2.out k (by omega)
      have m4 := hS2.out (k + 1) (by omega)
      have m5 := hElk.out k
      have m6 := hElk.out (37 + k)
      have m7 : k * (E k + E (37 + k)) ≤ 40000000000000 := by have := n2.out; omega
      obtain ⟨S, hS⟩ : ∃ S, Keep (sumTo (fun i => E i) k = S) := ⟨_, ⟨rfl⟩⟩
      obtain ⟨T, hT⟩ : ∃ T, Keep (sumTo (fun i => i * (E i + E (37 + i))) k = T) := ⟨_, ⟨rfl⟩⟩
      obtain ⟨x, hx⟩ : ∃ x, Keep (E k = x) := ⟨_, ⟨rfl⟩⟩
      obtain ⟨y, hy⟩ : ∃ y, Keep (E (37 + k) = y) := ⟨_, ⟨rfl⟩⟩
      obtain ⟨z, hz⟩ : ∃ z, Keep (k * (x + y) = z) := ⟨_, ⟨rfl⟩⟩
      rw [hx.out, hy.out, hz.out] at m7
      rw [hx.out, hy.out, hz.out, hT.out] at n2
      rw [hx.out, hS.out] at n1
      rw [hx.out] at a1 m5
      rw [hy.out] at b1 m6
      rw [hS.out] at m1 ⊢
      rw [hT.out] at m3 ⊢
      have w1 : IntKind.i64.wrap ((S : Int) + (x : Int)) = (S : Int) + (x : Int) := IntWalk.i64_in _ (by omega)
      have w2 : IntKind.i64.wrap ((x : Int) + (y : Int)) = (x : Int) + (y : Int) := IntWalk.i64_in _ (by omega)
      have w3 : IntKind.i64.wrap ((k : Int) * ((x : Int) + (y : Int))) = (z : Int) := by rw [← Int.natCast_add, ← Int.natCast_mul, hz.out, IntWalk.i64_in _ (by omega)]
      have w4 : IntKind.i64.wrap ((T : Int) + (z : Int)) = (T : Int) + (z : Int) := IntWalk.i64_in _ (by omega)
      have g1 : k < 37 := by omega
      have g2 : (k : Int) < 37 := by omega
      have g3 : (k : Int) < (N : Int) + 1 := by omega
      clear m2 m4
      go_wp2
      go_quiet (fail)
      go_wp2
      refine ⟨⟨k + 1, by omega, by go_num, ?_, ?_, q + nq, by first | rfl | exact drewN_add _ _ _⟩, by simp [intOf]; omega⟩
      · rw [n1.out]; push_cast; rfl
      · rw [n2.out]; push_cast; rfl
    · obtain rfl : k = N + 1 := by omega
      have g3 : ¬ ((N + 1 : Nat) : Int) < (N : Int) + 1 := by omega
      rw [← hacc.out, ← hex.out]
      have m1 := hS1.out (N + 1) (by omega)
      have m3 := hS2.out (N + 1) (by omega)
      rw [← hacc.out] at m1
      rw [← hex.out] at m3
      obtain ⟨A, hA⟩ : ∃ A, accAll N d c.A c.R c.L = A := ⟨_, rfl⟩
      obtain ⟨X, hX⟩ : ∃ X, exAll N d c.A c.R c.L = X := ⟨_, rfl⟩
      have hAk := Keep.mk hA
      have hXk := Keep.mk hX
      rw [hA] at m1 ⊢
      rw [hX] at m3 ⊢
      have hI6 := hI.drewN q
      have hs1 := fun W (h : Pieces W b N) => share_any (w := W) h hd (x := A) (by omega)
      have hs2 := fun W (h : Pieces W b N) => share_any (w := W) h hd (x := X) (by omega)
      obtain ⟨D, hD⟩ : ∃ D, Keep (ch N d = D) := ⟨_, ⟨rfl⟩⟩
      rw [hD.out] at hs1 hs2
      have hb6 := hI6.bw
      have hlb6 := hI6.P.lt
      clear hA hX m1 m3 hch
      unfold redV fracV at hs1 hs2
      go_wp2_with (first
        | (go_at_call 66; refine (hs1 _ hI6.P).mono ?_; rintro e w7 ⟨rfl, hb7⟩
           have hP7 := hI6.P.below hb7 hlb6
           have o7 := hI6.o1.after hb7
           have p7 := hI6.o2.after hb7
           have hbw7 := hb6.trans (hb7.mono hb6.size)
           have hlb7 := hP7.lt
           clear hb7 hs1 hI6)
        | (go_at_call 66; refine (hs2 _ hP7).mono ?_; rintro e w8 ⟨rfl, hb8⟩
           obtain ⟨x0, x1, x2, x3⟩ := o7.after hb8
           obtain ⟨y0, y1, y2, y3⟩ := p7.after hb8
           have hbw8 := hbw7.trans (hb8.mono hbw7.size)
           clear hb8 hs2))
      all_goals refine bodyPost_ret (v := .tuple #[redV A D, redV X D]) (by unfold redV fracV; simp [results, Try.results58, go_sem]; try go_simp) rfl ?_
      all_goals refine ⟨by rw [← hAk.out, ← hXk.out, ← hD.out], ?_⟩
      all_goals exact (((hbw8.setCell (p := ⟨w.heap.size + 1, 0, none⟩) (by simp) _).setCell (p := ⟨w.heap.size + 1, 1, none⟩) (by simp) _).setCell (p := ⟨w.heap.size + 1 + 1, 0, none⟩) (by simp; omega) _).setCell (p := ⟨w.heap.size + 1 + 1, 1, none⟩) (by simp; omega) _
end Go.Proofs.Ytbmfipjnfbnjgaa
