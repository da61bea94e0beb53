import Derived.Test.YtbmfipjnfbnjgaaChancesFn
import Derived.Test.YtbmfipjnfbnjgaaFitsDec
import Derived.Test.YtbmfipjnfbnjgaaTameAll
import Derived.Test.YtbmfipjnfbnjgaaRef
set_option linter.unusedSimpArgs false
set_option linter.unusedVariables false
namespace Go.Proofs.Ytbmfipjnfbnjgaa
open Go Go.Proofs Go.RowKit Go.Sample Go.Seq
theorem row_apart {W : World} {B e s n g j : Nat} {v u : Value} {xs : List Value} (h : W.ownsRow B e s v n xs) (hg : ∀ i, v.ownBlock = some i → i ≠ g) : (W.setCell ⟨g, j, none⟩ u).ownsRow B e s v n xs := by
  obtain ⟨h1, h2⟩ := h
  refine ⟨h1, ?_⟩
  rcases h2 with h2 | ⟨g', cap, cur, rfl, hg', hh, hr⟩
  · exact .inl h2
  · exact .inr ⟨g', cap, cur, rfl, hg', (Below.heap_setCell W ⟨g, j, none⟩ u g' (by show g' ≠ g; exact hg g' rfl)).trans hh, hr⟩
/-- Two lists that grow, an array beside them, and the course. -/
structure Rc2 (w : World) (c : Crs) (B G M : Nat) (F : Nat → Nat) (va vr : Value) (nA nR : Nat) (fa fr : Nat → Int) (W : World) : Prop where
  a : W.ownsRow B 3 1 va nA (rowL fa nA)
  r : W.ownsRow B 3 1 vr nR (rowL fr nR)
  ap : ∀ j, va.ownBlock = some j → vr.ownBlock ≠ some j
  av : ∀ j, va.ownBlock = some j → j ≠ G
  ar : ∀ j, vr.ownBlock = some j → j ≠ G
  nx : NumsAt W G M 3 F
  box : CrsBox W w.heap.size c
  bw : Below w.heap.size w W
  hB : w.heap.size + 1 = B
  gB : B ≤ G
section
variable {w W W' : World} {c : Crs} {B G M nA nR : Nat} {F F' : Nat → Nat} {va vr : Value} {fa fr : Nat → Int}
theorem Rc2.after (h : Rc2 w c B G M F va vr nA nR fa fr W) (hb : Below W.heap.size W W') : Rc2 w c B G M F va vr nA nR fa fr W' :=
  ⟨row_keep h.a hb, row_keep h.r hb, h.ap, h.av, h.ar, h.nx.below hb h.nx.lt, h.box.after hb, h.bw.trans (hb.mono h.bw.size), h.hB, h.gB⟩
theorem Rc2.fn (h : Rc2 w c B G M F va vr nA nR fa fr W) (e : ∀ j, j < M → F' j = F j) : Rc2 w c B G M F' va vr nA nR fa fr W := { h with nx := h.nx.fn e }
theorem Rc2.set (h : Rc2 w c B G M F va vr nA nR fa fr W) {k x : Nat} (hk : k < M) (hx : F' k = x) (he : ∀ j, j < M → j ≠ k → F' j = F j) (h1 : c.ga < w.heap.size) (h2 : c.gr < w.heap.size) : Rc2 w c B G M F' va vr nA nR fa fr (W.setCell ⟨G, k, none⟩ (.int .i64 (x : Nat))) := by
  have hG : w.heap.size < G := by have := h.hB; have := h.gB; omega
  have e := fun b (hb : b ≠ G) => Below.heap_setCell W ⟨G, k, none⟩ (.int .i64 (x : Nat)) b hb
  exact ⟨row_apart h.a h.av, row_apart h.r h.ar, h.ap, h.av, h.ar, h.nx.set hk hx he, h.box.same (e _ (by omega)) (e _ (by omega)) (e _ (by omega)), h.bw.setCell (p := ⟨G, k, none⟩) (by show w.heap.size ≤ G; omega) _, h.hB, h.gB⟩
theorem own_lt {W : World} {B e s n j : Nat} {v : Value} {xs : List Value} (h : W.ownsRow B e s v n xs) (hj : v.ownBlock = some j) : j < W.heap.size := (h.lt _ hj).2
theorem Rc2.make (h : Rc2 w c B G M F va vr nA nR fa fr W) {cs : Array Value} {M' : Nat} (h2 : cs.size = M') (h3 : ∀ j, j < M' → cs[j]? = some (.int .i64 0)) :
    Rc2 w c B W.heap.size M' (fun _ => 0) va vr nA nR fa fr (W.alloc (.cells cs 3)) ∧ NumsAt (W.alloc (.cells cs 3)) G M 3 F ∧ G ≠ W.heap.size := by
  have hb : Below W.heap.size W (W.alloc (.cells cs 3)) := (Below.refl _ _).alloc (Nat.le_refl _) _
  have k := h.after hb
  have hl := h.nx.lt
  have hg := h.gB
  exact ⟨⟨k.a, k.r, k.ap, fun j hj => by have := own_lt h.a hj; omega, fun j hj => by have := own_lt h.r hj; omega, NumsAt.new W h2 h3, k.box, k.bw, h.hB, by omega⟩, k.nx, by omega⟩
theorem Rc2.box_grown (h : Rc2 w c B G M F va vr nA nR fa fr W) (hb : Below B W W') (h1 : c.ga < w.heap.size) (h2 : c.gr < w.heap.size) : CrsBox W' w.heap.size c :=
  have := h.hB
  h.box.same (hb.block _ (by omega)) (hb.block _ (by omega)) (hb.block _ (by omega))
theorem Rc2.growA (h : Rc2 w c B G M F va vr nA nR fa fr W) {x v' : Value} {w' : World} {xs : List Value} (hxs : xs = rowL fa (nA + 1)) (ho : w'.ownsRow B 3 1 v' (nA + 1) xs) (hg : (W.alloc (.cells #[x] 3)).grownBy w' va.ownBlock) (hb : v'.ownBlock = va.ownBlock ∨ v'.ownBlock = some (W.alloc (.cells #[x] 3)).heap.size)
    (h1 : c.ga < w.heap.size) (h2 : c.gr < w.heap.size) : Rc2 w c B G M F v' vr (nA + 1) nR fa fr w' := by
  have hl := h.nx.lt
  have hgB := h.gB
  have hB := h.hB
  have k := h.after ((Below.refl W.heap.size W).alloc (Nat.le_refl _) (.cells #[x] 3))
  have hbl : Below B W w' := Below.grown ((Below.refl _ W).alloc (by omega) _) hg (by simp; omega) (fun j hj => by have := (h.a.lt _ hj).1; omega)
  refine ⟨by rw [← hxs]; exact ho, k.r.kept hg (apart_ne h.ap), apart_new h.ap hb (fun j hj => by have := own_lt h.r hj; simp; omega), fun j hj => ?_, h.ar, k.nx.same (hg.block G (by simp; omega) (fun e => h.av G e.symm rfl)), h.box_grown hbl h1 h2, h.bw.trans (hbl.mono (by omega)), hB, hgB⟩
  rcases hb with e | e
  · exact h.av j (e ▸ hj)
  · rw [e] at hj; injection hj with hj; simp at hj; omega
theorem Rc2.growR (h : Rc2 w c B G M F va vr nA nR fa fr W) {x v' : Value} {w' : World} {xs : List Value} (hxs : xs = rowL fr (nR + 1)) (ho : w'.ownsRow B 3 1 v' (nR + 1) xs) (hg : (W.alloc (.cells #[x] 3)).grownBy w' vr.ownBlock) (hb : v'.ownBlock = vr.ownBlock ∨ v'.ownBlock = some (W.alloc (.cells #[x] 3)).heap.size)
    (h1 : c.ga < w.heap.size) (h2 : c.gr < w.heap.size) : Rc2 w c B G M F va v' nA (nR + 1) fa fr w' := by
  have hl := h.nx.lt
  have hgB := h.gB
  have hB := h.hB
  have k := h.after ((Below.refl W.heap.size W).alloc (Nat.le_refl _) (.cells #[x] 3))
  have hbl : Below B W w' := Below.grown ((Below.refl _ W).alloc (by omega) _) hg (by simp; omega) (fun j hj => by have := (h.r.lt _ hj).1; omega)
  refine ⟨k.a.kept hg (apart_ne (apart_symm h.ap)), by rw [← hxs]; exact ho, apart_symm (apart_new (apart_symm h.ap) hb (fun j hj => by have := own_lt h.a hj; simp; omega)), h.av, fun j hj => ?_, k.nx.same (hg.block G (by simp; omega) (fun e => h.ar G e.symm rfl)), h.box_grown hbl h1 h2, h.bw.trans (hbl.mono (by omega)), hB, hgB⟩
  rcases hb with e | e
  · exact h.ar j (e ▸ hj)
  · rw [e] at hj; injection hj with hj; simp at hj; omega
end
def intZ (n : Nat) : Array Value := madeCells #[.int .i64 0] n
theorem intZ_at (n : Nat) : (intZ n).size = n ∧ ∀ j, j < n → (intZ n)[j]? = some (.int .i64 0) :=
  ⟨by unfold intZ; exact (size_madeCells _ _), fun j hj => by unfold intZ madeCells; simp [hj, Nat.mod_one]⟩
theorem made40 {N : Nat} (h : N ≤ 37) (w : World) : (Sem.run Try.prog (Instr.makeSlice 40 (.int .i64 ((N : Int) + 1)) (.int .i64 ((N : Int) + 1)))) w = .ok (.slice (some ⟨w.heap.size, 0, none⟩) (N + 1) (N + 1)) (w.alloc (.cells (intZ (N + 1)) 3)) := by
  have hi := info3
  cases hI : Try.prog.info? 3 with
  | none => rw [hI] at hi; cases hi
  | some i =>
    rw [hI] at hi
    simp only [Option.map_some, Option.some.injEq, Prod.mk.injEq] at hi
    obtain ⟨z1, z2, z3⟩ := hi
    have r := run_make (P := Try.prog) w 40 3 i _ ty40 hI z1 .i64 .i64 ((N : Int) + 1) ((N : Int) + 1) (by omega) (by omega) (by rw [z3]; omega) (by omega)
    rw [show ((N : Int) + 1).toNat = N + 1 by omega, z2, show (N + 1) * 1 = N + 1 by omega] at r
    exact r
/-- The next row, filled up to k. -/
def rcF (A R : Nat → Int) (m k j : Nat) : Nat := if j < k then opn A R (m + 1) j else 0
def rcG (A R : Nat → Int) (m k x j : Nat) : Nat := if j < k then opn A R (m + 1) j else if j = k then x else 0
theorem rc_none {A R : Nat → Int} {m k P M : Nat} (h : opn A R (m + 1) k = P) : ∀ j, j < M → rcF A R m (k + 1) j = rcG A R m k P j := by
  intro j _
  unfold rcF rcG
  by_cases e : j < k
  · rw [if_pos e, if_pos (by omega)]
  · by_cases e2 : j = k
    · subst e2; rw [if_pos (by omega), if_neg e, if_pos rfl, h]
    · rw [if_neg (by omega), if_neg e, if_neg e2]
def Cw (V V' : World) (q : Nat) (s : Nat → Bool) (W : World) : Prop := if s q = true then W = V' else W = V
theorem Cw.keep {V V' W : World} {q k : Nat} {s : Nat → Bool} (h : Cw V V' q s W) (hk : k ≠ q) : Cw V V' q (Many.upd s k) W := by
  have e : Many.upd s k q = s q := by simp [Many.upd, hk]
  unfold Cw at *; rw [e]; exact h
theorem cw_rd {P : Program} {md : Region.Mode} {ops : Array Oper} {V V' : World} {q k : Nat} {o : Oper} {a : Act} {v : Value} (hp : Manyd.dep md ops k q = true) (hk : k ≠ q) (h : (execOp a.eval o).run P V = .ok (.value v) V) : Manyd.Tr P md ops (Cw V V' q) k o a v :=
  Manyd.tr_read q (fun W => W = V) hp (fun s w hs hC => by unfold Cw at hC; rw [hs] at hC; simpa using hC) (fun s w hC => hC.keep hk) (fun w hw => by rw [hw]; exact h)

set_option maxHeartbeats 8000000 in
set_option maxRecDepth 100000 in
theorem refChances_any {N d : Nat} {c : Crs} {w : World} (h36 : N ≤ 36) (hd : d ≤ N) (hc : CrsIn w c) (l1 : 1 ≤ c.L) (l2 : c.L ≤ N) :
    Calls Try.prog 36 #[.int .i64 N, .int .i64 d, c.val] w fun e w' => ∃ va vr, e = .returned (.tuple #[va, vr]) ∧ w'.ownsRow w.heap.size 3 1 va c.L (rowL (fun i => ((yes N d c.A c.R i : Nat) : Int)) c.L) ∧ w'.ownsRow w.heap.size 3 1 vr c.L (rowL (fun i => ((no N d c.A c.R i : Nat) : Int)) c.L) ∧ Below w.heap.size w w' := by
  have hmx : Try.prog.follows .mixedOrders = true := by kernel_rfl
  obtain ⟨i0, hi, hz0, hz1, hz2⟩ := info_parts info3
  have hga : c.ga < w.heap.size := cell_lt (hc.las 0 (by omega))
  have hgr : c.gr < w.heap.size := cell_lt (hc.lrs 0 (by omega))
  have q60k := Keep.mk (fun (W : World) (i k : Nat) (h : CrsIn W c) (a : 1 ≤ i) (b : i ≤ c.L) => decide_any (k := k) h a b (by omega))
  have hmk40 := Keep.mk (fun (n : Nat) (h : n ≤ 37) (w : World) => made40 h w)
  obtain ⟨L, hL⟩ : ∃ L, Keep (c.L = L) := ⟨_, ⟨rfl⟩⟩
  obtain ⟨wa, hwa⟩ : ∃ wa, w.alloc (.cells #[c.sa, c.sr] 42) = wa := ⟨_, rfl⟩
  obtain ⟨wb, hwb⟩ : ∃ wb, wa.alloc (.cells #[.int .i64 1] 3) = wb := ⟨_, rfl⟩
  have sa : wa.heap.size = w.heap.size + 1 := by rw [← hwa]; simp
  have ba : Below w.heap.size w wa := by rw [← hwa]; exact (Below.refl _ _).alloc (Nat.le_refl _) _
  have bb : Below wa.heap.size wa wb := by rw [← hwb]; exact (Below.refl _ _).alloc (Nat.le_refl _) _
  have hBx : CrsBox wb w.heap.size c := by
    have : CrsBox wa w.heap.size c := by rw [← hwa]; exact CrsBox.new hc 42
    exact this.after bb
  have hn0 : NumsAt wb (w.heap.size + 1) 1 3 (opn c.A c.R 0) := by
    refine ⟨#[.int .i64 1], by rw [← sa, ← hwb]; exact World.alloc_heap_new _ _, rfl, fun j hj => ?_⟩
    rw [show j = 0 by omega]; rfl
  have hR0 : Keep (Rc2 w c (w.heap.size + 1) (w.heap.size + 1) 1 (opn c.A c.R 0) (.slice none 0 0) (.slice none 0 0) 0 0 (fun i => ((yes N d c.A c.R i : Nat) : Int)) (fun i => ((no N d c.A c.R i : Nat) : Int)) wb) :=
    ⟨⟨World.ownsRow_nil _ _ _ _, World.ownsRow_nil _ _ _ _, fun j hj => (by cases hj), fun j hj => (by cases hj), fun j hj => (by cases hj), hn0, hBx, ba.trans (bb.mono (by omega)), rfl, Nat.le_refl _⟩⟩
  have hwab : (w.alloc (.cells #[c.sa, c.sr] 42)).alloc (.cells #[.int .i64 1] 3) = wb := by rw [hwa, hwb]
  obtain ⟨B, hB⟩ : ∃ B, Keep (w.heap.size + 1 = B) := ⟨_, ⟨rfl⟩⟩
  rw [hB.out] at hR0
  have hBB := hB.out
  clear hwa hwb sa ba bb hBx hn0
  unfold Crs.sa Crs.sr at hwab
  have hval : c.val = .agg #[.slice (some ⟨c.ga, c.oa, none⟩) c.L c.ca, .slice (some ⟨c.gr, c.ro, none⟩) c.L c.cr] := rfl
  rw [hval] at q60k ⊢
  rw [hL.out] at hwab q60k l1 l2 ⊢
  have hcells := Keep.mk (fun (W : World) (h : CrsBox W w.heap.size c) => h.own)
  unfold Crs.sa Crs.sr at hcells
  rw [hL.out] at hcells
  clear hval
  go_enter Try.func36, Try.ntmps36
  go_wp2
  try rw [hwab]
  try rw [hBB]
  clear hwab hBB
  go_loopw [8, 9, 10, 11] (fun ws ya yr i wr => ∃ m n g : Nat, Keep (n = m + 1) ∧ 1 ≤ n ∧ n ≤ L + 1 ∧ i = .int .i64 n ∧ ws = .slice (some ⟨g, 0, none⟩) n n ∧ ∃ va vr, va = ya ∧ vr = yr ∧ Keep (Rc2 w c B g n (opn c.A c.R m) va vr m m (fun i => ((yes N d c.A c.R i : Nat) : Int)) (fun i => ((no N d c.A c.R i : Nat) : Int)) wr)) (fun _ _ _ i _ => L + 1 - (intOf i).toNat)
  case atStart => exact ⟨0, 1, B, ⟨rfl⟩, Nat.le_refl _, by omega, rfl, rfl, _, _, rfl, rfl, hR0⟩
  case round =>
    obtain ⟨m, n, g, hnm, hn1, hnL, rfl, rfl, va, vr, rfl, rfl, hR⟩ := hrel
    obtain ⟨⟨b0, b1, _, _⟩, _⟩ := (⟨hcells.out _ hR.out.box, trivial⟩ : Own2 _ _ _ _ ∧ True)
    by_cases hlt : n < L + 1
    · have hle : (n : Int) ≤ (L : Int) := by omega
      have wn : IntKind.i64.wrap ((n : Int) + 1) = (n : Int) + 1 := IntWalk.i64_in _ (by omega)
      have hmk := fun w => hmk40.out n (by omega) w
      obtain ⟨w2, hw2⟩ : ∃ w2, wr.alloc (.cells (intZ (n + 1)) 3) = w2 := ⟨_, rfl⟩
      obtain ⟨hI, hW, hgG⟩ := hR.out.make (intZ_at (n + 1)).1 (intZ_at (n + 1)).2
      rw [hw2] at hI hW
      obtain ⟨G, hG⟩ : ∃ G, wr.heap.size = G := ⟨_, rfl⟩
      rw [hG] at hI hgG
      have hI0 : Keep (Rc2 w c B G (n + 1) (rcF c.A c.R m 0) va vr m m (fun i => ((yes N d c.A c.R i : Nat) : Int)) (fun i => ((no N d c.A c.R i : Nat) : Int)) w2) := ⟨hI.fn (fun j _ => by simp [rcF])⟩
      have hW0 := Keep.mk hW
      have hgGk := Keep.mk hgG
      clear hI hW hgG
      go_wp2
      try rw [hw2]
      try rw [hG]
      clear hw2 hmk hG
      go_loopw [13, 14, 15] (fun y o k wr2 => ∃ j : Nat, j ≤ n + 1 ∧ k = .int .i64 j ∧ y = .int .i64 (yesTo N d c.A c.R m j : Nat) ∧ o = .int .i64 (noTo N d c.A c.R m j : Nat) ∧ Keep (Rc2 w c B G (n + 1) (rcF c.A c.R m j) va vr m m (fun i => ((yes N d c.A c.R i : Nat) : Int)) (fun i => ((no N d c.A c.R i : Nat) : Int)) wr2) ∧ Keep (NumsAt wr2 g n 3 (opn c.A c.R m))) (fun _ _ k _ => n + 1 - (intOf k).toNat)
      case atStart => exact ⟨0, by omega, rfl, rfl, rfl, hI0, hW0⟩
      case round =>
        obtain ⟨k, hk, rfl, rfl, rfl, hI, hW⟩ := hrel
        by_cases hkn : k < n + 1

        · skip
          have kn : n ≤ N := by omega
          obtain ⟨xk, hxk⟩ : ∃ x, Keep (opn c.A c.R m k = x) := ⟨_, ⟨rfl⟩⟩
          obtain ⟨P, hP⟩ : ∃ x, Keep (nxt (opn c.A c.R m) k = x) := ⟨_, ⟨rfl⟩⟩
          obtain ⟨Q, hQ⟩ : ∃ q, Keep (N - n = q) := ⟨_, ⟨rfl⟩⟩
          obtain ⟨X, hX⟩ : ∃ x, Keep (chZ Q ((d : Int) - (k : Int)) = x) := ⟨_, ⟨rfl⟩⟩
          obtain ⟨Wv, hWv⟩ : ∃ x, Keep (P * X = x) := ⟨_, ⟨rfl⟩⟩
          have hwy : Keep (wy N d c.A c.R m k = Wv) := ⟨by unfold wy; rw [hP.out, show N - (m + 1) = Q by rw [← hQ.out, hnm.out], hX.out, hWv.out]⟩
          have hPb : P ≤ 9075135300 := by rw [← hP.out]; exact Nat.le_trans (nxt_le_ch _ _ _ _) (ch_le (by have := hnm.out; omega) _)
          have hWb : Wv ≤ 9075135300 := by rw [← hwy.out]; exact Nat.le_trans (wy_ch N d c.A c.R (by have := hnm.out; omega) k) (ch_le h36 d)
          obtain ⟨Y, hY⟩ : ∃ x, Keep (yesTo N d c.A c.R m k = x) := ⟨_, ⟨rfl⟩⟩
          obtain ⟨O, hO⟩ : ∃ x, Keep (noTo N d c.A c.R m k = x) := ⟨_, ⟨rfl⟩⟩
          have hYO : Y + O ≤ 9075135300 := by rw [← hY.out, ← hO.out]; exact Nat.le_trans (both_ch N d c.A c.R (by have := hnm.out; omega) k) (ch_le h36 d)
          have q21 : ∀ w, Calls Try.prog 21 #[.int .i64 Q, .int .i64 ((d : Int) - (k : Int))] w fun e w' => e = .returned (.int .i64 (X : Nat)) ∧ w' = w := fun w => by
            have h := binom_any (n := Q) (z := (d : Int) - (k : Int)) (by have := hQ.out; omega) ⟨by omega, by omega⟩ w
            rwa [hX.out] at h
          have wnN : IntKind.i64.wrap ((N : Int) - (n : Int)) = (Q : Int) := by rw [IntWalk.i64_in _ (by omega)]; have := hQ.out; omega
          have wdk : IntKind.i64.wrap ((d : Int) - (k : Int)) = (d : Int) - (k : Int) := IntWalk.i64_in _ (by omega)
          have wmul : IntKind.i64.wrap ((P : Int) * (X : Int)) = (Wv : Int) := by rw [show (P : Int) * (X : Int) = (Wv : Int) by rw [← hWv.out]; push_cast; rfl]; exact IntWalk.i64_in _ (by omega)
          have wk1 : IntKind.i64.wrap ((k : Int) + 1) = (k : Int) + 1 := IntWalk.i64_in _ (by omega)
          have hlw := hW.out.lt
          have hq60 := Keep.mk (fun (W : World) (h : CrsBox W w.heap.size c) => q60k.out W n k h.inn hn1 (by have := hL.out; omega))
          simp only [show n - 1 = m from (by have := hnm.out; omega)] at hq60
          have kle : (k : Int) ≤ (n : Int) := by omega
          rw [hY.out, hO.out]
          have hyn : Keep (yesTo N d c.A c.R m (k + 1) = Y + (if (k : Int) ≤ c.A m then Wv else 0)) := ⟨by show yesTo N d c.A c.R m k + (if (k : Int) ≤ c.A m then wy N d c.A c.R m k else 0) = _; rw [hY.out, hwy.out]⟩
          have hon : Keep (noTo N d c.A c.R m (k + 1) = O + (if (k : Int) ≤ c.A m then 0 else if c.R m ≤ (k : Int) then Wv else 0)) := ⟨by show noTo N d c.A c.R m k + (if (k : Int) ≤ c.A m then 0 else if c.R m ≤ (k : Int) then wy N d c.A c.R m k else 0) = _; rw [hO.out, hwy.out]⟩
          have hcut : Keep (opn c.A c.R (m + 1) k = if (k : Int) ≤ c.A m ∨ c.R m ≤ (k : Int) then 0 else P) := ⟨by rw [opn_succ, hP.out]⟩
          have hPx : Keep (P = xk + (if k = 0 then 0 else opn c.A c.R m (k - 1))) := ⟨by rw [← hP.out, ← hxk.out]; rfl⟩
          have hgt : Keep (k = n → xk = 0) := ⟨fun h => by rw [← hxk.out]; exact opn_gt c.A c.R (by have := hnm.out; omega)⟩
          have cWk : Keep (∀ V, NumsAt V g n 3 (opn c.A c.R m) → ∀ j, j < n → V.cell? ⟨g, j, none⟩ = some (.int .i64 (opn c.A c.R m j : Nat))) := ⟨fun V h j hj => (h.cell hj).1⟩
          clear hY hO hP hX hWv hwy q60k hQ kn
          have hgGn := hgGk.out
          have nk1 : (k : Int) < (n : Int) + 1 := by omega
          have nk0 : ¬ (k : Int) < 0 := by omega
          by_cases hA : (k : Int) ≤ c.A m
          · skip
            by_cases hkk : k = 0
            · skip
              obtain ⟨cGk, fGk⟩ := hI.out.nx.cell (j := k) (by omega)
              have kl : (k : Int) < (n : Int) := by omega
              have cgk := cWk.out _ hW.out k (by omega)
              rw [hxk.out] at cgk
              have hI1 : Keep (Rc2 w c B G (n + 1) (rcG c.A c.R m k xk) va vr m m (fun i => ((yes N d c.A c.R i : Nat) : Int)) (fun i => ((no N d c.A c.R i : Nat) : Int)) (wr.setCell ⟨G, k, none⟩ (.int .i64 (xk : Nat)))) := ⟨hI.out.set (by omega) (by simp [rcG]) (fun j _ hj => by unfold rcG rcF; simp [hj]) hga hgr⟩
              have hW1 := Keep.mk (hW.out.other (p := k) hgGn (.int .i64 (xk : Nat)))
              have kp : ¬ 0 < (k : Int) := by omega
              have hPs : xk = P := by have h := hPx.out; rw [if_pos hkk] at h; omega
              subst hPs
              have hD : dec (c.A m) (c.R m) k = 1 := by unfold dec; rw [if_pos hA]
              obtain ⟨Y2, hY2⟩ : ∃ y, Keep (Y + Wv = y) := ⟨_, ⟨rfl⟩⟩
              have wY : IntKind.i64.wrap ((Y : Int) + (Wv : Int)) = (Y2 : Int) := by rw [IntWalk.i64_in _ (by omega)]; have := hY2.out; omega
              have hy2 := Keep.mk (hyn.out.trans (by rw [if_pos hA, hY2.out]))
              have ho2 := Keep.mk (hon.out.trans (by rw [if_pos hA, Nat.add_zero]))
              have hc2 := Keep.mk (hcut.out.trans (by rw [if_pos (.inl hA)]))
              rw [hD] at hq60
              clear hD hyn hon hcut hPx hgt
              clear hkk
              go_wp2
              obtain ⟨V1, hV1⟩ : ∃ V, wr.setCell ⟨G, k, none⟩ (.int .i64 (xk : Nat)) = V := ⟨_, rfl⟩
              rw [hV1] at hI1 hW1
              try rw [hV1]
              clear hV1 cGk fGk cgk
              have hI2 := hI1
              have hW2 := hW1
              clear hI1 hW1
              obtain ⟨cG2, fG2⟩ := hI2.out.nx.cell (j := k) (by omega)
              rw [show rcG c.A c.R m k xk k = xk by simp [rcG]] at cG2
              go_quiet (first | (go_at_call 21; with_reducible exact Calls.quiet_of_same (q21 _)))
              obtain ⟨V3, hV3⟩ : ∃ U, V1.drewN nq = U := ⟨_, rfl⟩
              have b3 : Below V1.heap.size V1 V3 := by rw [← hV3]; exact below_drewN (Below.refl _ _) nq
              have hI3 := Keep.mk (hI2.out.after b3)
              have hW3 := Keep.mk (hW2.out.below b3 hW2.out.lt)
              rw [hV3]
              clear hV3 b3 cG2 fG2 hI2 hW2 q21
              obtain ⟨b0, b1, _, _⟩ := hcells.out _ hI3.out.box
              have q60 := hq60.out _ hI3.out.box
              go_wp2_with (first
                | (go_at_call 60; (with_reducible refine q60.mono ?_); rintro e w5 ⟨rfl, hb5⟩
                   have hI5 := Keep.mk (hI3.out.after hb5)
                   have hW5 := Keep.mk (hW3.out.below hb5 hW3.out.lt)
                   obtain ⟨cG5, fG5⟩ := hI5.out.nx.cell (j := k) (by omega)
                   clear hb5))
              have hz := hI5.out.set (k := k) (x := 0) (F' := rcF c.A c.R m (k + 1)) (by omega) (by unfold rcF; rw [if_pos (by omega), hc2.out]) (fun j _ hj => by unfold rcF rcG; by_cases e : j < k <;> simp [e, hj, show (j < k + 1) = (j < k) from propext ⟨fun h => by omega, fun h => by omega⟩]) hga hgr
              rw [show ((0 : Nat) : Int) = 0 from rfl] at hz
              exact ⟨⟨k + 1, by omega, by go_num, by rw [hy2.out], by rw [ho2.out], ⟨hz⟩, ⟨hW5.out.other hgGn _⟩⟩, by simp [intOf]; omega⟩
            by_cases hkk0 : k = n
            · have hkk := hkk0
              obtain ⟨cGk, fGk⟩ := hI.out.nx.cell (j := k) (by omega)
              have kl : ¬ (k : Int) < (n : Int) := by omega
              have hx0 := hgt.out hkk
              have hI1 : Keep (Rc2 w c B G (n + 1) (rcG c.A c.R m k xk) va vr m m (fun i => ((yes N d c.A c.R i : Nat) : Int)) (fun i => ((no N d c.A c.R i : Nat) : Int)) wr) := ⟨hI.out.fn (fun j _ => by unfold rcG rcF; rw [hx0]; simp)⟩
              have hW1 := hW
              clear hx0
              have kp : 0 < (k : Int) := by omega
              obtain ⟨q, hq⟩ : ∃ q, Keep (k = q + 1) := ⟨k - 1, ⟨by omega⟩⟩
              obtain ⟨xp, hxp⟩ : ∃ x, Keep (opn c.A c.R m q = x) := ⟨_, ⟨rfl⟩⟩
              have wkm : IntKind.i64.wrap ((k : Int) - 1) = (q : Int) := by rw [IntWalk.i64_in _ (by omega)]; have := hq.out; omega
              have hPs : P = xk + xp := by have h := hPx.out; rw [if_neg (by have := hq.out; omega), show k - 1 = q from (by have := hq.out; omega), hxp.out] at h; exact h
              have wadd : IntKind.i64.wrap ((xk : Int) + (xp : Int)) = (P : Int) := by rw [IntWalk.i64_in _ (by omega)]; omega
              have nq1 : (q : Int) < (n : Int) := by have := hq.out; omega
              have hPk := Keep.mk hPs
              clear hPs
              have hD : dec (c.A m) (c.R m) k = 1 := by unfold dec; rw [if_pos hA]
              obtain ⟨Y2, hY2⟩ : ∃ y, Keep (Y + Wv = y) := ⟨_, ⟨rfl⟩⟩
              have wY : IntKind.i64.wrap ((Y : Int) + (Wv : Int)) = (Y2 : Int) := by rw [IntWalk.i64_in _ (by omega)]; have := hY2.out; omega
              have hy2 := Keep.mk (hyn.out.trans (by rw [if_pos hA, hY2.out]))
              have ho2 := Keep.mk (hon.out.trans (by rw [if_pos hA, Nat.add_zero]))
              have hc2 := Keep.mk (hcut.out.trans (by rw [if_pos (.inl hA)]))
              rw [hD] at hq60
              clear hD hyn hon hcut hPx hgt
              clear hkk hkk0 cGk fGk
              go_wp2
              obtain ⟨cG1, fG1⟩ := hI1.out.nx.cell (j := k) (by omega)
              rw [show rcG c.A c.R m k xk k = xk by simp [rcG]] at cG1
              have cgq := cWk.out _ hW1.out q (by have := hq.out; omega)
              rw [hxp.out] at cgq
              have hI2 : Keep (Rc2 w c B G (n + 1) (rcG c.A c.R m k P) va vr m m (fun i => ((yes N d c.A c.R i : Nat) : Int)) (fun i => ((no N d c.A c.R i : Nat) : Int)) (wr.drew.setCell ⟨G, k, none⟩ (.int .i64 (P : Nat)))) := ⟨(hI1.out.after ((Below.refl _ _).drew)).set (by omega) (by simp [rcG]) (fun j _ hj => by unfold rcG; simp [hj]) hga hgr⟩
              have hW2 := Keep.mk ((show NumsAt wr.drew g n 3 (opn c.A c.R m) from hW1.out).other (p := k) hgGn (.int .i64 (P : Nat)))
              refine (wpIn_wide (n := 0)).1 ?_
              refine Manyd.region_many (Cw wr.drew (wr.drew.setCell ⟨G, k, none⟩ (.int .i64 (P : Nat))) 13) hmx (by kernel_rfl) (fun s s' W' h hc => by rw [← show s = s' from funext h]; exact hc) (fun s hs => by unfold Cw; rw [hs 13 (by decide)]; rfl) ?_
              refine Manyd.lex_want (by rfl) (cw_rd (v := .slice (some ⟨G, 0, none⟩) (n + 1) (n + 1)) (by kernel_rfl) (by decide) (by (go_simp; (try rfl); (try (first | done | omega | (intros; omega)))))) ?_
              simp only [Act.put, List.setIfInBounds_toArray, List.set_cons_succ, List.set_cons_zero, Nat.reduceAdd]
              refine Manyd.lex_want (by rfl) (cw_rd (v := .int .i64 k) (by kernel_rfl) (by decide) (by (go_simp; (try rfl); (try (first | done | omega | (intros; omega)))))) ?_
              simp only [Act.put, List.setIfInBounds_toArray, List.set_cons_succ, List.set_cons_zero, Nat.reduceAdd]
              refine Manyd.lex_want (by rfl) (cw_rd (v := .slice (some ⟨G, 0, none⟩) (n + 1) (n + 1)) (by kernel_rfl) (by decide) (by (go_simp; (try rfl); (try (first | done | omega | (intros; omega)))))) ?_
              simp only [Act.put, List.setIfInBounds_toArray, List.set_cons_succ, List.set_cons_zero, Nat.reduceAdd]
              refine Manyd.lex_want (by rfl) (cw_rd (v := .int .i64 k) (by kernel_rfl) (by decide) (by (go_simp; (try rfl); (try (first | done | omega | (intros; omega)))))) ?_
              simp only [Act.put, List.setIfInBounds_toArray, List.set_cons_succ, List.set_cons_zero, Nat.reduceAdd]
              refine Manyd.lex_want (by rfl) (cw_rd (v := .pointer (some ⟨G, k, none⟩)) (by kernel_rfl) (by decide) (by (go_simp; (try rfl); (try (first | done | omega | (intros; omega)))))) ?_
              simp only [Act.put, List.setIfInBounds_toArray, List.set_cons_succ, List.set_cons_zero, Nat.reduceAdd]
              refine Manyd.lex_want (by rfl) (cw_rd (v := .int .i64 (xk : Nat)) (by kernel_rfl) (by decide) (by (go_simp; (try rfl); (try (first | done | omega | (intros; omega)))))) ?_
              simp only [Act.put, List.setIfInBounds_toArray, List.set_cons_succ, List.set_cons_zero, Nat.reduceAdd]
              refine Manyd.lex_want (by rfl) (cw_rd (v := .slice (some ⟨g, 0, none⟩) n n) (by kernel_rfl) (by decide) (by (go_simp; (try rfl); (try (first | done | omega | (intros; omega)))))) ?_
              simp only [Act.put, List.setIfInBounds_toArray, List.set_cons_succ, List.set_cons_zero, Nat.reduceAdd]
              refine Manyd.lex_want (by rfl) (cw_rd (v := .int .i64 k) (by kernel_rfl) (by decide) (by (go_simp; (try rfl); (try (first | done | omega | (intros; omega)))))) ?_
              simp only [Act.put, List.setIfInBounds_toArray, List.set_cons_succ, List.set_cons_zero, Nat.reduceAdd]
              refine Manyd.lex_want (by rfl) (cw_rd (v := .int .i64 (q : Nat)) (by kernel_rfl) (by decide) (by (go_simp; (try rfl); (try (first | done | omega | (intros; omega)))))) ?_
              simp only [Act.put, List.setIfInBounds_toArray, List.set_cons_succ, List.set_cons_zero, Nat.reduceAdd]
              refine Manyd.lex_want (by rfl) (cw_rd (v := .pointer (some ⟨g, q, none⟩)) (by kernel_rfl) (by decide) (by (go_simp; (try rfl); (try (first | done | omega | (intros; omega)))))) ?_
              simp only [Act.put, List.setIfInBounds_toArray, List.set_cons_succ, List.set_cons_zero, Nat.reduceAdd]
              refine Manyd.lex_want (by rfl) (cw_rd (v := .int .i64 (xp : Nat)) (by kernel_rfl) (by decide) (by (go_simp; (try rfl); (try (first | done | omega | (intros; omega)))))) ?_
              simp only [Act.put, List.setIfInBounds_toArray, List.set_cons_succ, List.set_cons_zero, Nat.reduceAdd]
              refine Manyd.lex_want (by rfl) (cw_rd (v := .int .i64 (P : Nat)) (by kernel_rfl) (by decide) (by (go_simp; (try rfl); (try (first | done | omega | (intros; omega)))))) ?_
              simp only [Act.put, List.setIfInBounds_toArray, List.set_cons_succ, List.set_cons_zero, Nat.reduceAdd]
              refine Manyd.lex_want (by rfl) (cw_rd (v := .pointer (some ⟨G, k, none⟩)) (by kernel_rfl) (by decide) (by (go_simp; (try rfl); (try (first | done | omega | (intros; omega)))))) ?_
              simp only [Act.put, List.setIfInBounds_toArray, List.set_cons_succ, List.set_cons_zero, Nat.reduceAdd]
              refine Manyd.lex_want (by rfl) (Manyd.tr_step (v := undef) (fun s W hs hd hC => ?_)) ?_
              · unfold Cw at hC
                rw [hs] at hC
                have hWV : W = wr.drew := by simpa using hC
                rw [hWV]
                clear hC hWV hd
                go_simp
                refine ⟨rfl, ?_⟩
                unfold Cw Manyd.upd
                simp
              simp only [Act.put, List.setIfInBounds_toArray, List.set_cons_succ, List.set_cons_zero, Nat.reduceAdd]
              refine Manyd.lex_nil fun s W' hs hC => ?_
              unfold Cw at hC
              rw [hs 13 (by decide)] at hC
              obtain rfl : W' = (wr.drew.setCell ⟨G, k, none⟩ (.int .i64 (P : Nat))) := by simpa using hC
              clear hC hs
              obtain ⟨V2, hV2⟩ : ∃ U, wr.drew.setCell ⟨G, k, none⟩ (.int .i64 (P : Nat)) = U := ⟨_, rfl⟩
              rw [hV2] at hI2 hW2
              rw [hV2]
              clear hV2 cG1 fG1 cgq hI1 hW1
              go_wp2
              obtain ⟨cG2, fG2⟩ := hI2.out.nx.cell (j := k) (by omega)
              rw [show rcG c.A c.R m k P k = P by simp [rcG]] at cG2
              go_quiet (first | (go_at_call 21; with_reducible exact Calls.quiet_of_same (q21 _)))
              obtain ⟨V3, hV3⟩ : ∃ U, V2.drewN nq = U := ⟨_, rfl⟩
              have b3 : Below V2.heap.size V2 V3 := by rw [← hV3]; exact below_drewN (Below.refl _ _) nq
              have hI3 := Keep.mk (hI2.out.after b3)
              have hW3 := Keep.mk (hW2.out.below b3 hW2.out.lt)
              rw [hV3]
              clear hV3 b3 cG2 fG2 hI2 hW2 q21
              obtain ⟨b0, b1, _, _⟩ := hcells.out _ hI3.out.box
              have q60 := hq60.out _ hI3.out.box
              go_wp2_with (first
                | (go_at_call 60; (with_reducible refine q60.mono ?_); rintro e w5 ⟨rfl, hb5⟩
                   have hI5 := Keep.mk (hI3.out.after hb5)
                   have hW5 := Keep.mk (hW3.out.below hb5 hW3.out.lt)
                   obtain ⟨cG5, fG5⟩ := hI5.out.nx.cell (j := k) (by omega)
                   clear hb5))
              have hz := hI5.out.set (k := k) (x := 0) (F' := rcF c.A c.R m (k + 1)) (by omega) (by unfold rcF; rw [if_pos (by omega), hc2.out]) (fun j _ hj => by unfold rcF rcG; by_cases e : j < k <;> simp [e, hj, show (j < k + 1) = (j < k) from propext ⟨fun h => by omega, fun h => by omega⟩]) hga hgr
              rw [show ((0 : Nat) : Int) = 0 from rfl] at hz
              exact ⟨⟨k + 1, by omega, by go_num, by rw [hy2.out], by rw [ho2.out], ⟨hz⟩, ⟨hW5.out.other hgGn _⟩⟩, by simp [intOf]; omega⟩
            · skip
              obtain ⟨cGk, fGk⟩ := hI.out.nx.cell (j := k) (by omega)
              have kl : (k : Int) < (n : Int) := by omega
              have cgk := cWk.out _ hW.out k (by omega)
              rw [hxk.out] at cgk
              have hI1 : Keep (Rc2 w c B G (n + 1) (rcG c.A c.R m k xk) va vr m m (fun i => ((yes N d c.A c.R i : Nat) : Int)) (fun i => ((no N d c.A c.R i : Nat) : Int)) (wr.setCell ⟨G, k, none⟩ (.int .i64 (xk : Nat)))) := ⟨hI.out.set (by omega) (by simp [rcG]) (fun j _ hj => by unfold rcG rcF; simp [hj]) hga hgr⟩
              have hW1 := Keep.mk (hW.out.other (p := k) hgGn (.int .i64 (xk : Nat)))
              have kp : 0 < (k : Int) := by omega
              obtain ⟨q, hq⟩ : ∃ q, Keep (k = q + 1) := ⟨k - 1, ⟨by omega⟩⟩
              obtain ⟨xp, hxp⟩ : ∃ x, Keep (opn c.A c.R m q = x) := ⟨_, ⟨rfl⟩⟩
              have wkm : IntKind.i64.wrap ((k : Int) - 1) = (q : Int) := by rw [IntWalk.i64_in _ (by omega)]; have := hq.out; omega
              have hPs : P = xk + xp := by have h := hPx.out; rw [if_neg (by have := hq.out; omega), show k - 1 = q from (by have := hq.out; omega), hxp.out] at h; exact h
              have wadd : IntKind.i64.wrap ((xk : Int) + (xp : Int)) = (P : Int) := by rw [IntWalk.i64_in _ (by omega)]; omega
              have nq1 : (q : Int) < (n : Int) := by have := hq.out; omega
              have hPk := Keep.mk hPs
              clear hPs
              have hD : dec (c.A m) (c.R m) k = 1 := by unfold dec; rw [if_pos hA]
              obtain ⟨Y2, hY2⟩ : ∃ y, Keep (Y + Wv = y) := ⟨_, ⟨rfl⟩⟩
              have wY : IntKind.i64.wrap ((Y : Int) + (Wv : Int)) = (Y2 : Int) := by rw [IntWalk.i64_in _ (by omega)]; have := hY2.out; omega
              have hy2 := Keep.mk (hyn.out.trans (by rw [if_pos hA, hY2.out]))
              have ho2 := Keep.mk (hon.out.trans (by rw [if_pos hA, Nat.add_zero]))
              have hc2 := Keep.mk (hcut.out.trans (by rw [if_pos (.inl hA)]))
              rw [hD] at hq60
              clear hD hyn hon hcut hPx hgt
              go_wp2
              obtain ⟨V1, hV1⟩ : ∃ V, wr.setCell ⟨G, k, none⟩ (.int .i64 (xk : Nat)) = V := ⟨_, rfl⟩
              rw [hV1] at hI1 hW1
              try rw [hV1]
              clear hV1 cGk fGk cgk
              obtain ⟨cG1, fG1⟩ := hI1.out.nx.cell (j := k) (by omega)
              rw [show rcG c.A c.R m k xk k = xk by simp [rcG]] at cG1
              have cgq := cWk.out _ hW1.out q (by have := hq.out; omega)
              rw [hxp.out] at cgq
              have hI2 : Keep (Rc2 w c B G (n + 1) (rcG c.A c.R m k P) va vr m m (fun i => ((yes N d c.A c.R i : Nat) : Int)) (fun i => ((no N d c.A c.R i : Nat) : Int)) (V1.drew.setCell ⟨G, k, none⟩ (.int .i64 (P : Nat)))) := ⟨(hI1.out.after ((Below.refl _ _).drew)).set (by omega) (by simp [rcG]) (fun j _ hj => by unfold rcG; simp [hj]) hga hgr⟩
              have hW2 := Keep.mk ((show NumsAt V1.drew g n 3 (opn c.A c.R m) from hW1.out).other (p := k) hgGn (.int .i64 (P : Nat)))
              refine (wpIn_wide (n := 0)).1 ?_
              refine Manyd.region_many (Cw V1.drew (V1.drew.setCell ⟨G, k, none⟩ (.int .i64 (P : Nat))) 13) hmx (by kernel_rfl) (fun s s' W' h hc => by rw [← show s = s' from funext h]; exact hc) (fun s hs => by unfold Cw; rw [hs 13 (by decide)]; rfl) ?_
              refine Manyd.lex_want (by rfl) (cw_rd (v := .slice (some ⟨G, 0, none⟩) (n + 1) (n + 1)) (by kernel_rfl) (by decide) (by (go_simp; (try rfl); (try (first | done | omega | (intros; omega)))))) ?_
              simp only [Act.put, List.setIfInBounds_toArray, List.set_cons_succ, List.set_cons_zero, Nat.reduceAdd]
              refine Manyd.lex_want (by rfl) (cw_rd (v := .int .i64 k) (by kernel_rfl) (by decide) (by (go_simp; (try rfl); (try (first | done | omega | (intros; omega)))))) ?_
              simp only [Act.put, List.setIfInBounds_toArray, List.set_cons_succ, List.set_cons_zero, Nat.reduceAdd]
              refine Manyd.lex_want (by rfl) (cw_rd (v := .slice (some ⟨G, 0, none⟩) (n + 1) (n + 1)) (by kernel_rfl) (by decide) (by (go_simp; (try rfl); (try (first | done | omega | (intros; omega)))))) ?_
              simp only [Act.put, List.setIfInBounds_toArray, List.set_cons_succ, List.set_cons_zero, Nat.reduceAdd]
              refine Manyd.lex_want (by rfl) (cw_rd (v := .int .i64 k) (by kernel_rfl) (by decide) (by (go_simp; (try rfl); (try (first | done | omega | (intros; omega)))))) ?_
              simp only [Act.put, List.setIfInBounds_toArray, List.set_cons_succ, List.set_cons_zero, Nat.reduceAdd]
              refine Manyd.lex_want (by rfl) (cw_rd (v := .pointer (some ⟨G, k, none⟩)) (by kernel_rfl) (by decide) (by (go_simp; (try rfl); (try (first | done | omega | (intros; omega)))))) ?_
              simp only [Act.put, List.setIfInBounds_toArray, List.set_cons_succ, List.set_cons_zero, Nat.reduceAdd]
              refine Manyd.lex_want (by rfl) (cw_rd (v := .int .i64 (xk : Nat)) (by kernel_rfl) (by decide) (by (go_simp; (try rfl); (try (first | done | omega | (intros; omega)))))) ?_
              simp only [Act.put, List.setIfInBounds_toArray, List.set_cons_succ, List.set_cons_zero, Nat.reduceAdd]
              refine Manyd.lex_want (by rfl) (cw_rd (v := .slice (some ⟨g, 0, none⟩) n n) (by kernel_rfl) (by decide) (by (go_simp; (try rfl); (try (first | done | omega | (intros; omega)))))) ?_
              simp only [Act.put, List.setIfInBounds_toArray, List.set_cons_succ, List.set_cons_zero, Nat.reduceAdd]
              refine Manyd.lex_want (by rfl) (cw_rd (v := .int .i64 k) (by kernel_rfl) (by decide) (by (go_simp; (try rfl); (try (first | done | omega | (intros; omega)))))) ?_
              simp only [Act.put, List.setIfInBounds_toArray, List.set_cons_succ, List.set_cons_zero, Nat.reduceAdd]
              refine Manyd.lex_want (by rfl) (cw_rd (v := .int .i64 (q : Nat)) (by kernel_rfl) (by decide) (by (go_simp; (try rfl); (try (first | done | omega | (intros; omega)))))) ?_
              simp only [Act.put, List.setIfInBounds_toArray, List.set_cons_succ, List.set_cons_zero, Nat.reduceAdd]
              refine Manyd.lex_want (by rfl) (cw_rd (v := .pointer (some ⟨g, q, none⟩)) (by kernel_rfl) (by decide) (by (go_simp; (try rfl); (try (first | done | omega | (intros; omega)))))) ?_
              simp only [Act.put, List.setIfInBounds_toArray, List.set_cons_succ, List.set_cons_zero, Nat.reduceAdd]
              refine Manyd.lex_want (by rfl) (cw_rd (v := .int .i64 (xp : Nat)) (by kernel_rfl) (by decide) (by (go_simp; (try rfl); (try (first | done | omega | (intros; omega)))))) ?_
              simp only [Act.put, List.setIfInBounds_toArray, List.set_cons_succ, List.set_cons_zero, Nat.reduceAdd]
              refine Manyd.lex_want (by rfl) (cw_rd (v := .int .i64 (P : Nat)) (by kernel_rfl) (by decide) (by (go_simp; (try rfl); (try (first | done | omega | (intros; omega)))))) ?_
              simp only [Act.put, List.setIfInBounds_toArray, List.set_cons_succ, List.set_cons_zero, Nat.reduceAdd]
              refine Manyd.lex_want (by rfl) (cw_rd (v := .pointer (some ⟨G, k, none⟩)) (by kernel_rfl) (by decide) (by (go_simp; (try rfl); (try (first | done | omega | (intros; omega)))))) ?_
              simp only [Act.put, List.setIfInBounds_toArray, List.set_cons_succ, List.set_cons_zero, Nat.reduceAdd]
              refine Manyd.lex_want (by rfl) (Manyd.tr_step (v := undef) (fun s W hs hd hC => ?_)) ?_
              · unfold Cw at hC
                rw [hs] at hC
                have hWV : W = V1.drew := by simpa using hC
                rw [hWV]
                clear hC hWV hd
                go_simp
                refine ⟨rfl, ?_⟩
                unfold Cw Manyd.upd
                simp
              simp only [Act.put, List.setIfInBounds_toArray, List.set_cons_succ, List.set_cons_zero, Nat.reduceAdd]
              refine Manyd.lex_nil fun s W' hs hC => ?_
              unfold Cw at hC
              rw [hs 13 (by decide)] at hC
              obtain rfl : W' = (V1.drew.setCell ⟨G, k, none⟩ (.int .i64 (P : Nat))) := by simpa using hC
              clear hC hs
              obtain ⟨V2, hV2⟩ : ∃ U, V1.drew.setCell ⟨G, k, none⟩ (.int .i64 (P : Nat)) = U := ⟨_, rfl⟩
              rw [hV2] at hI2 hW2
              rw [hV2]
              clear hV2 cG1 fG1 cgq hI1 hW1
              go_wp2
              obtain ⟨cG2, fG2⟩ := hI2.out.nx.cell (j := k) (by omega)
              rw [show rcG c.A c.R m k P k = P by simp [rcG]] at cG2
              go_quiet (first | (go_at_call 21; with_reducible exact Calls.quiet_of_same (q21 _)))
              obtain ⟨V3, hV3⟩ : ∃ U, V2.drewN nq = U := ⟨_, rfl⟩
              have b3 : Below V2.heap.size V2 V3 := by rw [← hV3]; exact below_drewN (Below.refl _ _) nq
              have hI3 := Keep.mk (hI2.out.after b3)
              have hW3 := Keep.mk (hW2.out.below b3 hW2.out.lt)
              rw [hV3]
              clear hV3 b3 cG2 fG2 hI2 hW2 q21
              obtain ⟨b0, b1, _, _⟩ := hcells.out _ hI3.out.box
              have q60 := hq60.out _ hI3.out.box
              go_wp2_with (first
                | (go_at_call 60; (with_reducible refine q60.mono ?_); rintro e w5 ⟨rfl, hb5⟩
                   have hI5 := Keep.mk (hI3.out.after hb5)
                   have hW5 := Keep.mk (hW3.out.below hb5 hW3.out.lt)
                   obtain ⟨cG5, fG5⟩ := hI5.out.nx.cell (j := k) (by omega)
                   clear hb5))
              have hz := hI5.out.set (k := k) (x := 0) (F' := rcF c.A c.R m (k + 1)) (by omega) (by unfold rcF; rw [if_pos (by omega), hc2.out]) (fun j _ hj => by unfold rcF rcG; by_cases e : j < k <;> simp [e, hj, show (j < k + 1) = (j < k) from propext ⟨fun h => by omega, fun h => by omega⟩]) hga hgr
              rw [show ((0 : Nat) : Int) = 0 from rfl] at hz
              exact ⟨⟨k + 1, by omega, by go_num, by rw [hy2.out], by rw [ho2.out], ⟨hz⟩, ⟨hW5.out.other hgGn _⟩⟩, by simp [intOf]; omega⟩
          by_cases hRk : c.R m ≤ (k : Int)
          · skip
            by_cases hkk : k = 0
            · skip
              obtain ⟨cGk, fGk⟩ := hI.out.nx.cell (j := k) (by omega)
              have kl : (k : Int) < (n : Int) := by omega
              have cgk := cWk.out _ hW.out k (by omega)
              rw [hxk.out] at cgk
              have hI1 : Keep (Rc2 w c B G (n + 1) (rcG c.A c.R m k xk) va vr m m (fun i => ((yes N d c.A c.R i : Nat) : Int)) (fun i => ((no N d c.A c.R i : Nat) : Int)) (wr.setCell ⟨G, k, none⟩ (.int .i64 (xk : Nat)))) := ⟨hI.out.set (by omega) (by simp [rcG]) (fun j _ hj => by unfold rcG rcF; simp [hj]) hga hgr⟩
              have hW1 := Keep.mk (hW.out.other (p := k) hgGn (.int .i64 (xk : Nat)))
              have kp : ¬ 0 < (k : Int) := by omega
              have hPs : xk = P := by have h := hPx.out; rw [if_pos hkk] at h; omega
              subst hPs
              have hD : dec (c.A m) (c.R m) k = -1 := by unfold dec; rw [if_neg hA, if_pos hRk]
              obtain ⟨O2, hO2⟩ : ∃ y, Keep (O + Wv = y) := ⟨_, ⟨rfl⟩⟩
              have wO : IntKind.i64.wrap ((O : Int) + (Wv : Int)) = (O2 : Int) := by rw [IntWalk.i64_in _ (by omega)]; have := hO2.out; omega
              have hy2 := Keep.mk (hyn.out.trans (by rw [if_neg hA, Nat.add_zero]))
              have ho2 := Keep.mk (hon.out.trans (by rw [if_neg hA, if_pos hRk, hO2.out]))
              have hc2 := Keep.mk (hcut.out.trans (by rw [if_pos (.inr hRk)]))
              rw [hD] at hq60
              clear hD hyn hon hcut hPx hgt
              clear hkk
              go_wp2
              obtain ⟨V1, hV1⟩ : ∃ V, wr.setCell ⟨G, k, none⟩ (.int .i64 (xk : Nat)) = V := ⟨_, rfl⟩
              rw [hV1] at hI1 hW1
              try rw [hV1]
              clear hV1 cGk fGk cgk
              have hI2 := hI1
              have hW2 := hW1
              clear hI1 hW1
              obtain ⟨cG2, fG2⟩ := hI2.out.nx.cell (j := k) (by omega)
              rw [show rcG c.A c.R m k xk k = xk by simp [rcG]] at cG2
              go_quiet (first | (go_at_call 21; with_reducible exact Calls.quiet_of_same (q21 _)))
              obtain ⟨V3, hV3⟩ : ∃ U, V1.drewN nq = U := ⟨_, rfl⟩
              have b3 : Below V1.heap.size V1 V3 := by rw [← hV3]; exact below_drewN (Below.refl _ _) nq
              have hI3 := Keep.mk (hI2.out.after b3)
              have hW3 := Keep.mk (hW2.out.below b3 hW2.out.lt)
              rw [hV3]
              clear hV3 b3 cG2 fG2 hI2 hW2 q21
              obtain ⟨b0, b1, _, _⟩ := hcells.out _ hI3.out.box
              have q60 := hq60.out _ hI3.out.box
              go_wp2_with (first
                | (go_at_call 60; (with_reducible refine q60.mono ?_); rintro e w5 ⟨rfl, hb5⟩
                   have hI5 := Keep.mk (hI3.out.after hb5)
                   have hW5 := Keep.mk (hW3.out.below hb5 hW3.out.lt)
                   obtain ⟨cG5, fG5⟩ := hI5.out.nx.cell (j := k) (by omega)
                   clear hb5))
              have hz := hI5.out.set (k := k) (x := 0) (F' := rcF c.A c.R m (k + 1)) (by omega) (by unfold rcF; rw [if_pos (by omega), hc2.out]) (fun j _ hj => by unfold rcF rcG; by_cases e : j < k <;> simp [e, hj, show (j < k + 1) = (j < k) from propext ⟨fun h => by omega, fun h => by omega⟩]) hga hgr
              rw [show ((0 : Nat) : Int) = 0 from rfl] at hz
              exact ⟨⟨k + 1, by omega, by go_num, by rw [hy2.out], by rw [ho2.out], ⟨hz⟩, ⟨hW5.out.other hgGn _⟩⟩, by simp [intOf]; omega⟩
            by_cases hkk0 : k = n
            · have hkk := hkk0
              obtain ⟨cGk, fGk⟩ := hI.out.nx.cell (j := k) (by omega)
              have kl : ¬ (k : Int) < (n : Int) := by omega
              have hx0 := hgt.out hkk
              have hI1 : Keep (Rc2 w c B G (n + 1) (rcG c.A c.R m k xk) va vr m m (fun i => ((yes N d c.A c.R i : Nat) : Int)) (fun i => ((no N d c.A c.R i : Nat) : Int)) wr) := ⟨hI.out.fn (fun j _ => by unfold rcG rcF; rw [hx0]; simp)⟩
              have hW1 := hW
              clear hx0
              have kp : 0 < (k : Int) := by omega
              obtain ⟨q, hq⟩ : ∃ q, Keep (k = q + 1) := ⟨k - 1, ⟨by omega⟩⟩
              obtain ⟨xp, hxp⟩ : ∃ x, Keep (opn c.A c.R m q = x) := ⟨_, ⟨rfl⟩⟩
              have wkm : IntKind.i64.wrap ((k : Int) - 1) = (q : Int) := by rw [IntWalk.i64_in _ (by omega)]; have := hq.out; omega
              have hPs : P = xk + xp := by have h := hPx.out; rw [if_neg (by have := hq.out; omega), show k - 1 = q from (by have := hq.out; omega), hxp.out] at h; exact h
              have wadd : IntKind.i64.wrap ((xk : Int) + (xp : Int)) = (P : Int) := by rw [IntWalk.i64_in _ (by omega)]; omega
              have nq1 : (q : Int) < (n : Int) := by have := hq.out; omega
              have hPk := Keep.mk hPs
              clear hPs
              have hD : dec (c.A m) (c.R m) k = -1 := by unfold dec; rw [if_neg hA, if_pos hRk]
              obtain ⟨O2, hO2⟩ : ∃ y, Keep (O + Wv = y) := ⟨_, ⟨rfl⟩⟩
              have wO : IntKind.i64.wrap ((O : Int) + (Wv : Int)) = (O2 : Int) := by rw [IntWalk.i64_in _ (by omega)]; have := hO2.out; omega
              have hy2 := Keep.mk (hyn.out.trans (by rw [if_neg hA, Nat.add_zero]))
              have ho2 := Keep.mk (hon.out.trans (by rw [if_neg hA, if_pos hRk, hO2.out]))
              have hc2 := Keep.mk (hcut.out.trans (by rw [if_pos (.inr hRk)]))
              rw [hD] at hq60
              clear hD hyn hon hcut hPx hgt
              clear hkk hkk0 cGk fGk
              go_wp2
              obtain ⟨cG1, fG1⟩ := hI1.out.nx.cell (j := k) (by omega)
              rw [show rcG c.A c.R m k xk k = xk by simp [rcG]] at cG1
              have cgq := cWk.out _ hW1.out q (by have := hq.out; omega)
              rw [hxp.out] at cgq
              have hI2 : Keep (Rc2 w c B G (n + 1) (rcG c.A c.R m k P) va vr m m (fun i => ((yes N d c.A c.R i : Nat) : Int)) (fun i => ((no N d c.A c.R i : Nat) : Int)) (wr.drew.setCell ⟨G, k, none⟩ (.int .i64 (P : Nat)))) := ⟨(hI1.out.after ((Below.refl _ _).drew)).set (by omega) (by simp [rcG]) (fun j _ hj => by unfold rcG; simp [hj]) hga hgr⟩
              have hW2 := Keep.mk ((show NumsAt wr.drew g n 3 (opn c.A c.R m) from hW1.out).other (p := k) hgGn (.int .i64 (P : Nat)))
              refine (wpIn_wide (n := 0)).1 ?_
              refine Manyd.region_many (Cw wr.drew (wr.drew.setCell ⟨G, k, none⟩ (.int .i64 (P : Nat))) 13) hmx (by kernel_rfl) (fun s s' W' h hc => by rw [← show s = s' from funext h]; exact hc) (fun s hs => by unfold Cw; rw [hs 13 (by decide)]; rfl) ?_
              refine Manyd.lex_want (by rfl) (cw_rd (v := .slice (some ⟨G, 0, none⟩) (n + 1) (n + 1)) (by kernel_rfl) (by decide) (by (go_simp; (try rfl); (try (first | done | omega | (intros; omega)))))) ?_
              simp only [Act.put, List.setIfInBounds_toArray, List.set_cons_succ, List.set_cons_zero, Nat.reduceAdd]
              refine Manyd.lex_want (by rfl) (cw_rd (v := .int .i64 k) (by kernel_rfl) (by decide) (by (go_simp; (try rfl); (try (first | done | omega | (intros; omega)))))) ?_
              simp only [Act.put, List.setIfInBounds_toArray, List.set_cons_succ, List.set_cons_zero, Nat.reduceAdd]
              refine Manyd.lex_want (by rfl) (cw_rd (v := .slice (some ⟨G, 0, none⟩) (n + 1) (n + 1)) (by kernel_rfl) (by decide) (by (go_simp; (try rfl); (try (first | done | omega | (intros; omega)))))) ?_
              simp only [Act.put, List.setIfInBounds_toArray, List.set_cons_succ, List.set_cons_zero, Nat.reduceAdd]
              refine Manyd.lex_want (by rfl) (cw_rd (v := .int .i64 k) (by kernel_rfl) (by decide) (by (go_simp; (try rfl); (try (first | done | omega | (intros; omega)))))) ?_
              simp only [Act.put, List.setIfInBounds_toArray, List.set_cons_succ, List.set_cons_zero, Nat.reduceAdd]
              refine Manyd.lex_want (by rfl) (cw_rd (v := .pointer (some ⟨G, k, none⟩)) (by kernel_rfl) (by decide) (by (go_simp; (try rfl); (try (first | done | omega | (intros; omega)))))) ?_
              simp only [Act.put, List.setIfInBounds_toArray, List.set_cons_succ, List.set_cons_zero, Nat.reduceAdd]
              refine Manyd.lex_want (by rfl) (cw_rd (v := .int .i64 (xk : Nat)) (by kernel_rfl) (by decide) (by (go_simp; (try rfl); (try (first | done | omega | (intros; omega)))))) ?_
              simp only [Act.put, List.setIfInBounds_toArray, List.set_cons_succ, List.set_cons_zero, Nat.reduceAdd]
              refine Manyd.lex_want (by rfl) (cw_rd (v := .slice (some ⟨g, 0, none⟩) n n) (by kernel_rfl) (by decide) (by (go_simp; (try rfl); (try (first | done | omega | (intros; omega)))))) ?_
              simp only [Act.put, List.setIfInBounds_toArray, List.set_cons_succ, List.set_cons_zero, Nat.reduceAdd]
              refine Manyd.lex_want (by rfl) (cw_rd (v := .int .i64 k) (by kernel_rfl) (by decide) (by (go_simp; (try rfl); (try (first | done | omega | (intros; omega)))))) ?_
              simp only [Act.put, List.setIfInBounds_toArray, List.set_cons_succ, List.set_cons_zero, Nat.reduceAdd]
              refine Manyd.lex_want (by rfl) (cw_rd (v := .int .i64 (q : Nat)) (by kernel_rfl) (by decide) (by (go_simp; (try rfl); (try (first | done | omega | (intros; omega)))))) ?_
              simp only [Act.put, List.setIfInBounds_toArray, List.set_cons_succ, List.set_cons_zero, Nat.reduceAdd]
              refine Manyd.lex_want (by rfl) (cw_rd (v := .pointer (some ⟨g, q, none⟩)) (by kernel_rfl) (by decide) (by (go_simp; (try rfl); (try (first | done | omega | (intros; omega)))))) ?_
              simp only [Act.put, List.setIfInBounds_toArray, List.set_cons_succ, List.set_cons_zero, Nat.reduceAdd]
              refine Manyd.lex_want (by rfl) (cw_rd (v := .int .i64 (xp : Nat)) (by kernel_rfl) (by decide) (by (go_simp; (try rfl); (try (first | done | omega | (intros; omega)))))) ?_
              simp only [Act.put, List.setIfInBounds_toArray, List.set_cons_succ, List.set_cons_zero, Nat.reduceAdd]
              refine Manyd.lex_want (by rfl) (cw_rd (v := .int .i64 (P : Nat)) (by kernel_rfl) (by decide) (by (go_simp; (try rfl); (try (first | done | omega | (intros; omega)))))) ?_
              simp only [Act.put, List.setIfInBounds_toArray, List.set_cons_succ, List.set_cons_zero, Nat.reduceAdd]
              refine Manyd.lex_want (by rfl) (cw_rd (v := .pointer (some ⟨G, k, none⟩)) (by kernel_rfl) (by decide) (by (go_simp; (try rfl); (try (first | done | omega | (intros; omega)))))) ?_
              simp only [Act.put, List.setIfInBounds_toArray, List.set_cons_succ, List.set_cons_zero, Nat.reduceAdd]
              refine Manyd.lex_want (by rfl) (Manyd.tr_step (v := undef) (fun s W hs hd hC => ?_)) ?_
              · unfold Cw at hC
                rw [hs] at hC
                have hWV : W = wr.drew := by simpa using hC
                rw [hWV]
                clear hC hWV hd
                go_simp
                refine ⟨rfl, ?_⟩
                unfold Cw Manyd.upd
                simp
              simp only [Act.put, List.setIfInBounds_toArray, List.set_cons_succ, List.set_cons_zero, Nat.reduceAdd]
              refine Manyd.lex_nil fun s W' hs hC => ?_
              unfold Cw at hC
              rw [hs 13 (by decide)] at hC
              obtain rfl : W' = (wr.drew.setCell ⟨G, k, none⟩ (.int .i64 (P : Nat))) := by simpa using hC
              clear hC hs
              obtain ⟨V2, hV2⟩ : ∃ U, wr.drew.setCell ⟨G, k, none⟩ (.int .i64 (P : Nat)) = U := ⟨_, rfl⟩
              rw [hV2] at hI2 hW2
              rw [hV2]
              clear hV2 cG1 fG1 cgq hI1 hW1
              go_wp2
              obtain ⟨cG2, fG2⟩ := hI2.out.nx.cell (j := k) (by omega)
              rw [show rcG c.A c.R m k P k = P by simp [rcG]] at cG2
              go_quiet (first | (go_at_call 21; with_reducible exact Calls.quiet_of_same (q21 _)))
              obtain ⟨V3, hV3⟩ : ∃ U, V2.drewN nq = U := ⟨_, rfl⟩
              have b3 : Below V2.heap.size V2 V3 := by rw [← hV3]; exact below_drewN (Below.refl _ _) nq
              have hI3 := Keep.mk (hI2.out.after b3)
              have hW3 := Keep.mk (hW2.out.below b3 hW2.out.lt)
              rw [hV3]
              clear hV3 b3 cG2 fG2 hI2 hW2 q21
              obtain ⟨b0, b1, _, _⟩ := hcells.out _ hI3.out.box
              have q60 := hq60.out _ hI3.out.box
              go_wp2_with (first
                | (go_at_call 60; (with_reducible refine q60.mono ?_); rintro e w5 ⟨rfl, hb5⟩
                   have hI5 := Keep.mk (hI3.out.after hb5)
                   have hW5 := Keep.mk (hW3.out.below hb5 hW3.out.lt)
                   obtain ⟨cG5, fG5⟩ := hI5.out.nx.cell (j := k) (by omega)
                   clear hb5))
              have hz := hI5.out.set (k := k) (x := 0) (F' := rcF c.A c.R m (k + 1)) (by omega) (by unfold rcF; rw [if_pos (by omega), hc2.out]) (fun j _ hj => by unfold rcF rcG; by_cases e : j < k <;> simp [e, hj, show (j < k + 1) = (j < k) from propext ⟨fun h => by omega, fun h => by omega⟩]) hga hgr
              rw [show ((0 : Nat) : Int) = 0 from rfl] at hz
              exact ⟨⟨k + 1, by omega, by go_num, by rw [hy2.out], by rw [ho2.out], ⟨hz⟩, ⟨hW5.out.other hgGn _⟩⟩, by simp [intOf]; omega⟩
            · skip
              obtain ⟨cGk, fGk⟩ := hI.out.nx.cell (j := k) (by omega)
              have kl : (k : Int) < (n : Int) := by omega
              have cgk := cWk.out _ hW.out k (by omega)
              rw [hxk.out] at cgk
              have hI1 : Keep (Rc2 w c B G (n + 1) (rcG c.A c.R m k xk) va vr m m (fun i => ((yes N d c.A c.R i : Nat) : Int)) (fun i => ((no N d c.A c.R i : Nat) : Int)) (wr.setCell ⟨G, k, none⟩ (.int .i64 (xk : Nat)))) := ⟨hI.out.set (by omega) (by simp [rcG]) (fun j _ hj => by unfold rcG rcF; simp [hj]) hga hgr⟩
              have hW1 := Keep.mk (hW.out.other (p := k) hgGn (.int .i64 (xk : Nat)))
              have kp : 0 < (k : Int) := by omega
              obtain ⟨q, hq⟩ : ∃ q, Keep (k = q + 1) := ⟨k - 1, ⟨by omega⟩⟩
              obtain ⟨xp, hxp⟩ : ∃ x, Keep (opn c.A c.R m q = x) := ⟨_, ⟨rfl⟩⟩
              have wkm : IntKind.i64.wrap ((k : Int) - 1) = (q : Int) := by rw [IntWalk.i64_in _ (by omega)]; have := hq.out; omega
              have hPs : P = xk + xp := by have h := hPx.out; rw [if_neg (by have := hq.out; omega), show k - 1 = q from (by have := hq.out; omega), hxp.out] at h; exact h
              have wadd : IntKind.i64.wrap ((xk : Int) + (xp : Int)) = (P : Int) := by rw [IntWalk.i64_in _ (by omega)]; omega
              have nq1 : (q : Int) < (n : Int) := by have := hq.out; omega
              have hPk := Keep.mk hPs
              clear hPs
              have hD : dec (c.A m) (c.R m) k = -1 := by unfold dec; rw [if_neg hA, if_pos hRk]
              obtain ⟨O2, hO2⟩ : ∃ y, Keep (O + Wv = y) := ⟨_, ⟨rfl⟩⟩
              have wO : IntKind.i64.wrap ((O : Int) + (Wv : Int)) = (O2 : Int) := by rw [IntWalk.i64_in _ (by omega)]; have := hO2.out; omega
              have hy2 := Keep.mk (hyn.out.trans (by rw [if_neg hA, Nat.add_zero]))
              have ho2 := Keep.mk (hon.out.trans (by rw [if_neg hA, if_pos hRk, hO2.out]))
              have hc2 := Keep.mk (hcut.out.trans (by rw [if_pos (.inr hRk)]))
              rw [hD] at hq60
              clear hD hyn hon hcut hPx hgt
              go_wp2
              obtain ⟨V1, hV1⟩ : ∃ V, wr.setCell ⟨G, k, none⟩ (.int .i64 (xk : Nat)) = V := ⟨_, rfl⟩
              rw [hV1] at hI1 hW1
              try rw [hV1]
              clear hV1 cGk fGk cgk
              obtain ⟨cG1, fG1⟩ := hI1.out.nx.cell (j := k) (by omega)
              rw [show rcG c.A c.R m k xk k = xk by simp [rcG]] at cG1
              have cgq := cWk.out _ hW1.out q (by have := hq.out; omega)
              rw [hxp.out] at cgq
              have hI2 : Keep (Rc2 w c B G (n + 1) (rcG c.A c.R m k P) va vr m m (fun i => ((yes N d c.A c.R i : Nat) : Int)) (fun i => ((no N d c.A c.R i : Nat) : Int)) (V1.drew.setCell ⟨G, k, none⟩ (.int .i64 (P : Nat)))) := ⟨(hI1.out.after ((Below.refl _ _).drew)).set (by omega) (by simp [rcG]) (fun j _ hj => by unfold rcG; simp [hj]) hga hgr⟩
              have hW2 := Keep.mk ((show NumsAt V1.drew g n 3 (opn c.A c.R m) from hW1.out).other (p := k) hgGn (.int .i64 (P : Nat)))
              refine (wpIn_wide (n := 0)).1 ?_
              refine Manyd.region_many (Cw V1.drew (V1.drew.setCell ⟨G, k, none⟩ (.int .i64 (P : Nat))) 13) hmx (by kernel_rfl) (fun s s' W' h hc => by rw [← show s = s' from funext h]; exact hc) (fun s hs => by unfold Cw; rw [hs 13 (by decide)]; rfl) ?_
              refine Manyd.lex_want (by rfl) (cw_rd (v := .slice (some ⟨G, 0, none⟩) (n + 1) (n + 1)) (by kernel_rfl) (by decide) (by (go_simp; (try rfl); (try (first | done | omega | (intros; omega)))))) ?_
              simp only [Act.put, List.setIfInBounds_toArray, List.set_cons_succ, List.set_cons_zero, Nat.reduceAdd]
              refine Manyd.lex_want (by rfl) (cw_rd (v := .int .i64 k) (by kernel_rfl) (by decide) (by (go_simp; (try rfl); (try (first | done | omega | (intros; omega)))))) ?_
              simp only [Act.put, List.setIfInBounds_toArray, List.set_cons_succ, List.set_cons_zero, Nat.reduceAdd]
              refine Manyd.lex_want (by rfl) (cw_rd (v := .slice (some ⟨G, 0, none⟩) (n + 1) (n + 1)) (by kernel_rfl) (by decide) (by (go_simp; (try rfl); (try (first | done | omega | (intros; omega)))))) ?_
              simp only [Act.put, List.setIfInBounds_toArray, List.set_cons_succ, List.set_cons_zero, Nat.reduceAdd]
              refine Manyd.lex_want (by rfl) (cw_rd (v := .int .i64 k) (by kernel_rfl) (by decide) (by (go_simp; (try rfl); (try (first | done | omega | (intros; omega)))))) ?_
              simp only [Act.put, List.setIfInBounds_toArray, List.set_cons_succ, List.set_cons_zero, Nat.reduceAdd]
              refine Manyd.lex_want (by rfl) (cw_rd (v := .pointer (some ⟨G, k, none⟩)) (by kernel_rfl) (by decide) (by (go_simp; (try rfl); (try (first | done | omega | (intros; omega)))))) ?_
              simp only [Act.put, List.setIfInBounds_toArray, List.set_cons_succ, List.set_cons_zero, Nat.reduceAdd]
              refine Manyd.lex_want (by rfl) (cw_rd (v := .int .i64 (xk : Nat)) (by kernel_rfl) (by decide) (by (go_simp; (try rfl); (try (first | done | omega | (intros; omega)))))) ?_
              simp only [Act.put, List.setIfInBounds_toArray, List.set_cons_succ, List.set_cons_zero, Nat.reduceAdd]
              refine Manyd.lex_want (by rfl) (cw_rd (v := .slice (some ⟨g, 0, none⟩) n n) (by kernel_rfl) (by decide) (by (go_simp; (try rfl); (try (first | done | omega | (intros; omega)))))) ?_
              simp only [Act.put, List.setIfInBounds_toArray, List.set_cons_succ, List.set_cons_zero, Nat.reduceAdd]
              refine Manyd.lex_want (by rfl) (cw_rd (v := .int .i64 k) (by kernel_rfl) (by decide) (by (go_simp; (try rfl); (try (first | done | omega | (intros; omega)))))) ?_
              simp only [Act.put, List.setIfInBounds_toArray, List.set_cons_succ, List.set_cons_zero, Nat.reduceAdd]
              refine Manyd.lex_want (by rfl) (cw_rd (v := .int .i64 (q : Nat)) (by kernel_rfl) (by decide) (by (go_simp; (try rfl); (try (first | done | omega | (intros; omega)))))) ?_
              simp only [Act.put, List.setIfInBounds_toArray, List.set_cons_succ, List.set_cons_zero, Nat.reduceAdd]
              refine Manyd.lex_want (by rfl) (cw_rd (v := .pointer (some ⟨g, q, none⟩)) (by kernel_rfl) (by decide) (by (go_simp; (try rfl); (try (first | done | omega | (intros; omega)))))) ?_
              simp only [Act.put, List.setIfInBounds_toArray, List.set_cons_succ, List.set_cons_zero, Nat.reduceAdd]
              refine Manyd.lex_want (by rfl) (cw_rd (v := .int .i64 (xp : Nat)) (by kernel_rfl) (by decide) (by (go_simp; (try rfl); (try (first | done | omega | (intros; omega)))))) ?_
              simp only [Act.put, List.setIfInBounds_toArray, List.set_cons_succ, List.set_cons_zero, Nat.reduceAdd]
              refine Manyd.lex_want (by rfl) (cw_rd (v := .int .i64 (P : Nat)) (by kernel_rfl) (by decide) (by (go_simp; (try rfl); (try (first | done | omega | (intros; omega)))))) ?_
              simp only [Act.put, List.setIfInBounds_toArray, List.set_cons_succ, List.set_cons_zero, Nat.reduceAdd]
              refine Manyd.lex_want (by rfl) (cw_rd (v := .pointer (some ⟨G, k, none⟩)) (by kernel_rfl) (by decide) (by (go_simp; (try rfl); (try (first | done | omega | (intros; omega)))))) ?_
              simp only [Act.put, List.setIfInBounds_toArray, List.set_cons_succ, List.set_cons_zero, Nat.reduceAdd]
              refine Manyd.lex_want (by rfl) (Manyd.tr_step (v := undef) (fun s W hs hd hC => ?_)) ?_
              · unfold Cw at hC
                rw [hs] at hC
                have hWV : W = V1.drew := by simpa using hC
                rw [hWV]
                clear hC hWV hd
                go_simp
                refine ⟨rfl, ?_⟩
                unfold Cw Manyd.upd
                simp
              simp only [Act.put, List.setIfInBounds_toArray, List.set_cons_succ, List.set_cons_zero, Nat.reduceAdd]
              refine Manyd.lex_nil fun s W' hs hC => ?_
              unfold Cw at hC
              rw [hs 13 (by decide)] at hC
              obtain rfl : W' = (V1.drew.setCell ⟨G, k, none⟩ (.int .i64 (P : Nat))) := by simpa using hC
              clear hC hs
              obtain ⟨V2, hV2⟩ : ∃ U, V1.drew.setCell ⟨G, k, none⟩ (.int .i64 (P : Nat)) = U := ⟨_, rfl⟩
              rw [hV2] at hI2 hW2
              rw [hV2]
              clear hV2 cG1 fG1 cgq hI1 hW1
              go_wp2
              obtain ⟨cG2, fG2⟩ := hI2.out.nx.cell (j := k) (by omega)
              rw [show rcG c.A c.R m k P k = P by simp [rcG]] at cG2
              go_quiet (first | (go_at_call 21; with_reducible exact Calls.quiet_of_same (q21 _)))
              obtain ⟨V3, hV3⟩ : ∃ U, V2.drewN nq = U := ⟨_, rfl⟩
              have b3 : Below V2.heap.size V2 V3 := by rw [← hV3]; exact below_drewN (Below.refl _ _) nq
              have hI3 := Keep.mk (hI2.out.after b3)
              have hW3 := Keep.mk (hW2.out.below b3 hW2.out.lt)
              rw [hV3]
              clear hV3 b3 cG2 fG2 hI2 hW2 q21
              obtain ⟨b0, b1, _, _⟩ := hcells.out _ hI3.out.box
              have q60 := hq60.out _ hI3.out.box
              go_wp2_with (first
                | (go_at_call 60; (with_reducible refine q60.mono ?_); rintro e w5 ⟨rfl, hb5⟩
                   have hI5 := Keep.mk (hI3.out.after hb5)
                   have hW5 := Keep.mk (hW3.out.below hb5 hW3.out.lt)
                   obtain ⟨cG5, fG5⟩ := hI5.out.nx.cell (j := k) (by omega)
                   clear hb5))
              have hz := hI5.out.set (k := k) (x := 0) (F' := rcF c.A c.R m (k + 1)) (by omega) (by unfold rcF; rw [if_pos (by omega), hc2.out]) (fun j _ hj => by unfold rcF rcG; by_cases e : j < k <;> simp [e, hj, show (j < k + 1) = (j < k) from propext ⟨fun h => by omega, fun h => by omega⟩]) hga hgr
              rw [show ((0 : Nat) : Int) = 0 from rfl] at hz
              exact ⟨⟨k + 1, by omega, by go_num, by rw [hy2.out], by rw [ho2.out], ⟨hz⟩, ⟨hW5.out.other hgGn _⟩⟩, by simp [intOf]; omega⟩
          · skip
            by_cases hkk : k = 0
            · skip
              obtain ⟨cGk, fGk⟩ := hI.out.nx.cell (j := k) (by omega)
              have kl : (k : Int) < (n : Int) := by omega
              have cgk := cWk.out _ hW.out k (by omega)
              rw [hxk.out] at cgk
              have hI1 : Keep (Rc2 w c B G (n + 1) (rcG c.A c.R m k xk) va vr m m (fun i => ((yes N d c.A c.R i : Nat) : Int)) (fun i => ((no N d c.A c.R i : Nat) : Int)) (wr.setCell ⟨G, k, none⟩ (.int .i64 (xk : Nat)))) := ⟨hI.out.set (by omega) (by simp [rcG]) (fun j _ hj => by unfold rcG rcF; simp [hj]) hga hgr⟩
              have hW1 := Keep.mk (hW.out.other (p := k) hgGn (.int .i64 (xk : Nat)))
              have kp : ¬ 0 < (k : Int) := by omega
              have hPs : xk = P := by have h := hPx.out; rw [if_pos hkk] at h; omega
              subst hPs
              have hD : dec (c.A m) (c.R m) k = 0 := by unfold dec; rw [if_neg hA, if_neg hRk]
              have hy2 := Keep.mk (hyn.out.trans (by rw [if_neg hA, Nat.add_zero]))
              have ho2 := Keep.mk (hon.out.trans (by rw [if_neg hA, if_neg hRk, Nat.add_zero]))
              have hc2 := Keep.mk (hcut.out.trans (by rw [if_neg (fun h => h.elim hA hRk)]))
              rw [hD] at hq60
              clear hD hyn hon hcut hPx hgt
              clear hkk
              go_wp2
              obtain ⟨V1, hV1⟩ : ∃ V, wr.setCell ⟨G, k, none⟩ (.int .i64 (xk : Nat)) = V := ⟨_, rfl⟩
              rw [hV1] at hI1 hW1
              try rw [hV1]
              clear hV1 cGk fGk cgk
              have hI2 := hI1
              have hW2 := hW1
              clear hI1 hW1
              obtain ⟨cG2, fG2⟩ := hI2.out.nx.cell (j := k) (by omega)
              rw [show rcG c.A c.R m k xk k = xk by simp [rcG]] at cG2
              go_quiet (first | (go_at_call 21; with_reducible exact Calls.quiet_of_same (q21 _)))
              obtain ⟨V3, hV3⟩ : ∃ U, V1.drewN nq = U := ⟨_, rfl⟩
              have b3 : Below V1.heap.size V1 V3 := by rw [← hV3]; exact below_drewN (Below.refl _ _) nq
              have hI3 := Keep.mk (hI2.out.after b3)
              have hW3 := Keep.mk (hW2.out.below b3 hW2.out.lt)
              rw [hV3]
              clear hV3 b3 cG2 fG2 hI2 hW2 q21
              obtain ⟨b0, b1, _, _⟩ := hcells.out _ hI3.out.box
              have q60 := hq60.out _ hI3.out.box
              go_wp2_with (first
                | (go_at_call 60; (with_reducible refine q60.mono ?_); rintro e w5 ⟨rfl, hb5⟩
                   have hI5 := Keep.mk (hI3.out.after hb5)
                   have hW5 := Keep.mk (hW3.out.below hb5 hW3.out.lt)
                   obtain ⟨cG5, fG5⟩ := hI5.out.nx.cell (j := k) (by omega)
                   clear hb5))
              have hz := hI5.out.fn (F' := rcF c.A c.R m (k + 1)) (rc_none hc2.out)
              exact ⟨⟨k + 1, by omega, by go_num, by rw [hy2.out], by rw [ho2.out], ⟨hz⟩, hW5⟩, by simp [intOf]; omega⟩
            by_cases hkk0 : k = n
            · have hkk := hkk0
              obtain ⟨cGk, fGk⟩ := hI.out.nx.cell (j := k) (by omega)
              have kl : ¬ (k : Int) < (n : Int) := by omega
              have hx0 := hgt.out hkk
              have hI1 : Keep (Rc2 w c B G (n + 1) (rcG c.A c.R m k xk) va vr m m (fun i => ((yes N d c.A c.R i : Nat) : Int)) (fun i => ((no N d c.A c.R i : Nat) : Int)) wr) := ⟨hI.out.fn (fun j _ => by unfold rcG rcF; rw [hx0]; simp)⟩
              have hW1 := hW
              clear hx0
              have kp : 0 < (k : Int) := by omega
              obtain ⟨q, hq⟩ : ∃ q, Keep (k = q + 1) := ⟨k - 1, ⟨by omega⟩⟩
              obtain ⟨xp, hxp⟩ : ∃ x, Keep (opn c.A c.R m q = x) := ⟨_, ⟨rfl⟩⟩
              have wkm : IntKind.i64.wrap ((k : Int) - 1) = (q : Int) := by rw [IntWalk.i64_in _ (by omega)]; have := hq.out; omega
              have hPs : P = xk + xp := by have h := hPx.out; rw [if_neg (by have := hq.out; omega), show k - 1 = q from (by have := hq.out; omega), hxp.out] at h; exact h
              have wadd : IntKind.i64.wrap ((xk : Int) + (xp : Int)) = (P : Int) := by rw [IntWalk.i64_in _ (by omega)]; omega
              have nq1 : (q : Int) < (n : Int) := by have := hq.out; omega
              have hPk := Keep.mk hPs
              clear hPs
              have hD : dec (c.A m) (c.R m) k = 0 := by unfold dec; rw [if_neg hA, if_neg hRk]
              have hy2 := Keep.mk (hyn.out.trans (by rw [if_neg hA, Nat.add_zero]))
              have ho2 := Keep.mk (hon.out.trans (by rw [if_neg hA, if_neg hRk, Nat.add_zero]))
              have hc2 := Keep.mk (hcut.out.trans (by rw [if_neg (fun h => h.elim hA hRk)]))
              rw [hD] at hq60
              clear hD hyn hon hcut hPx hgt
              clear hkk hkk0 cGk fGk
              go_wp2
              obtain ⟨cG1, fG1⟩ := hI1.out.nx.cell (j := k) (by omega)
              rw [show rcG c.A c.R m k xk k = xk by simp [rcG]] at cG1
              have cgq := cWk.out _ hW1.out q (by have := hq.out; omega)
              rw [hxp.out] at cgq
              have hI2 : Keep (Rc2 w c B G (n + 1) (rcG c.A c.R m k P) va vr m m (fun i => ((yes N d c.A c.R i : Nat) : Int)) (fun i => ((no N d c.A c.R i : Nat) : Int)) (wr.drew.setCell ⟨G, k, none⟩ (.int .i64 (P : Nat)))) := ⟨(hI1.out.after ((Below.refl _ _).drew)).set (by omega) (by simp [rcG]) (fun j _ hj => by unfold rcG; simp [hj]) hga hgr⟩
              have hW2 := Keep.mk ((show NumsAt wr.drew g n 3 (opn c.A c.R m) from hW1.out).other (p := k) hgGn (.int .i64 (P : Nat)))
              refine (wpIn_wide (n := 0)).1 ?_
              refine Manyd.region_many (Cw wr.drew (wr.drew.setCell ⟨G, k, none⟩ (.int .i64 (P : Nat))) 13) hmx (by kernel_rfl) (fun s s' W' h hc => by rw [← show s = s' from funext h]; exact hc) (fun s hs => by unfold Cw; rw [hs 13 (by decide)]; rfl) ?_
              refine Manyd.lex_want (by rfl) (cw_rd (v := .slice (some ⟨G, 0, none⟩) (n + 1) (n + 1)) (by kernel_rfl) (by decide) (by (go_simp; (try rfl); (try (first | done | omega | (intros; omega)))))) ?_
              simp only [Act.put, List.setIfInBounds_toArray, List.set_cons_succ, List.set_cons_zero, Nat.reduceAdd]
              refine Manyd.lex_want (by rfl) (cw_rd (v := .int .i64 k) (by kernel_rfl) (by decide) (by (go_simp; (try rfl); (try (first | done | omega | (intros; omega)))))) ?_
              simp only [Act.put, List.setIfInBounds_toArray, List.set_cons_succ, List.set_cons_zero, Nat.reduceAdd]
              refine Manyd.lex_want (by rfl) (cw_rd (v := .slice (some ⟨G, 0, none⟩) (n + 1) (n + 1)) (by kernel_rfl) (by decide) (by (go_simp; (try rfl); (try (first | done | omega | (intros; omega)))))) ?_
              simp only [Act.put, List.setIfInBounds_toArray, List.set_cons_succ, List.set_cons_zero, Nat.reduceAdd]
              refine Manyd.lex_want (by rfl) (cw_rd (v := .int .i64 k) (by kernel_rfl) (by decide) (by (go_simp; (try rfl); (try (first | done | omega | (intros; omega)))))) ?_
              simp only [Act.put, List.setIfInBounds_toArray, List.set_cons_succ, List.set_cons_zero, Nat.reduceAdd]
              refine Manyd.lex_want (by rfl) (cw_rd (v := .pointer (some ⟨G, k, none⟩)) (by kernel_rfl) (by decide) (by (go_simp; (try rfl); (try (first | done | omega | (intros; omega)))))) ?_
              simp only [Act.put, List.setIfInBounds_toArray, List.set_cons_succ, List.set_cons_zero, Nat.reduceAdd]
              refine Manyd.lex_want (by rfl) (cw_rd (v := .int .i64 (xk : Nat)) (by kernel_rfl) (by decide) (by (go_simp; (try rfl); (try (first | done | omega | (intros; omega)))))) ?_
              simp only [Act.put, List.setIfInBounds_toArray, List.set_cons_succ, List.set_cons_zero, Nat.reduceAdd]
              refine Manyd.lex_want (by rfl) (cw_rd (v := .slice (some ⟨g, 0, none⟩) n n) (by kernel_rfl) (by decide) (by (go_simp; (try rfl); (try (first | done | omega | (intros; omega)))))) ?_
              simp only [Act.put, List.setIfInBounds_toArray, List.set_cons_succ, List.set_cons_zero, Nat.reduceAdd]
              refine Manyd.lex_want (by rfl) (cw_rd (v := .int .i64 k) (by kernel_rfl) (by decide) (by (go_simp; (try rfl); (try (first | done | omega | (intros; omega)))))) ?_
              simp only [Act.put, List.setIfInBounds_toArray, List.set_cons_succ, List.set_cons_zero, Nat.reduceAdd]
              refine Manyd.lex_want (by rfl) (cw_rd (v := .int .i64 (q : Nat)) (by kernel_rfl) (by decide) (by (go_simp; (try rfl); (try (first | done | omega | (intros; omega)))))) ?_
              simp only [Act.put, List.setIfInBounds_toArray, List.set_cons_succ, List.set_cons_zero, Nat.reduceAdd]
              refine Manyd.lex_want (by rfl) (cw_rd (v := .pointer (some ⟨g, q, none⟩)) (by kernel_rfl) (by decide) (by (go_simp; (try rfl); (try (first | done | omega | (intros; omega)))))) ?_
              simp only [Act.put, List.setIfInBounds_toArray, List.set_cons_succ, List.set_cons_zero, Nat.reduceAdd]
              refine Manyd.lex_want (by rfl) (cw_rd (v := .int .i64 (xp : Nat)) (by kernel_rfl) (by decide) (by (go_simp; (try rfl); (try (first | done | omega | (intros; omega)))))) ?_
              simp only [Act.put, List.setIfInBounds_toArray, List.set_cons_succ, List.set_cons_zero, Nat.reduceAdd]
              refine Manyd.lex_want (by rfl) (cw_rd (v := .int .i64 (P : Nat)) (by kernel_rfl) (by decide) (by (go_simp; (try rfl); (try (first | done | omega | (intros; omega)))))) ?_
              simp only [Act.put, List.setIfInBounds_toArray, List.set_cons_succ, List.set_cons_zero, Nat.reduceAdd]
              refine Manyd.lex_want (by rfl) (cw_rd (v := .pointer (some ⟨G, k, none⟩)) (by kernel_rfl) (by decide) (by (go_simp; (try rfl); (try (first | done | omega | (intros; omega)))))) ?_
              simp only [Act.put, List.setIfInBounds_toArray, List.set_cons_succ, List.set_cons_zero, Nat.reduceAdd]
              refine Manyd.lex_want (by rfl) (Manyd.tr_step (v := undef) (fun s W hs hd hC => ?_)) ?_
              · unfold Cw at hC
                rw [hs] at hC
                have hWV : W = wr.drew := by simpa using hC
                rw [hWV]
                clear hC hWV hd
                go_simp
                refine ⟨rfl, ?_⟩
                unfold Cw Manyd.upd
                simp
              simp only [Act.put, List.setIfInBounds_toArray, List.set_cons_succ, List.set_cons_zero, Nat.reduceAdd]
              refine Manyd.lex_nil fun s W' hs hC => ?_
              unfold Cw at hC
              rw [hs 13 (by decide)] at hC
              obtain rfl : W' = (wr.drew.setCell ⟨G, k, none⟩ (.int .i64 (P : Nat))) := by simpa using hC
              clear hC hs
              obtain ⟨V2, hV2⟩ : ∃ U, wr.drew.setCell ⟨G, k, none⟩ (.int .i64 (P : Nat)) = U := ⟨_, rfl⟩
              rw [hV2] at hI2 hW2
              rw [hV2]
              clear hV2 cG1 fG1 cgq hI1 hW1
              go_wp2
              obtain ⟨cG2, fG2⟩ := hI2.out.nx.cell (j := k) (by omega)
              rw [show rcG c.A c.R m k P k = P by simp [rcG]] at cG2
              go_quiet (first | (go_at_call 21; with_reducible exact Calls.quiet_of_same (q21 _)))
              obtain ⟨V3, hV3⟩ : ∃ U, V2.drewN nq = U := ⟨_, rfl⟩
              have b3 : Below V2.heap.size V2 V3 := by rw [← hV3]; exact below_drewN (Below.refl _ _) nq
              have hI3 := Keep.mk (hI2.out.after b3)
              have hW3 := Keep.mk (hW2.out.below b3 hW2.out.lt)
              rw [hV3]
              clear hV3 b3 cG2 fG2 hI2 hW2 q21
              obtain ⟨b0, b1, _, _⟩ := hcells.out _ hI3.out.box
              have q60 := hq60.out _ hI3.out.box
              go_wp2_with (first
                | (go_at_call 60; (with_reducible refine q60.mono ?_); rintro e w5 ⟨rfl, hb5⟩
                   have hI5 := Keep.mk (hI3.out.after hb5)
                   have hW5 := Keep.mk (hW3.out.below hb5 hW3.out.lt)
                   obtain ⟨cG5, fG5⟩ := hI5.out.nx.cell (j := k) (by omega)
                   clear hb5))
              have hz := hI5.out.fn (F' := rcF c.A c.R m (k + 1)) (rc_none hc2.out)
              exact ⟨⟨k + 1, by omega, by go_num, by rw [hy2.out], by rw [ho2.out], ⟨hz⟩, hW5⟩, by simp [intOf]; omega⟩
            · skip
              obtain ⟨cGk, fGk⟩ := hI.out.nx.cell (j := k) (by omega)
              have kl : (k : Int) < (n : Int) := by omega
              have cgk := cWk.out _ hW.out k (by omega)
              rw [hxk.out] at cgk
              have hI1 : Keep (Rc2 w c B G (n + 1) (rcG c.A c.R m k xk) va vr m m (fun i => ((yes N d c.A c.R i : Nat) : Int)) (fun i => ((no N d c.A c.R i : Nat) : Int)) (wr.setCell ⟨G, k, none⟩ (.int .i64 (xk : Nat)))) := ⟨hI.out.set (by omega) (by simp [rcG]) (fun j _ hj => by unfold rcG rcF; simp [hj]) hga hgr⟩
              have hW1 := Keep.mk (hW.out.other (p := k) hgGn (.int .i64 (xk : Nat)))
              have kp : 0 < (k : Int) := by omega
              obtain ⟨q, hq⟩ : ∃ q, Keep (k = q + 1) := ⟨k - 1, ⟨by omega⟩⟩
              obtain ⟨xp, hxp⟩ : ∃ x, Keep (opn c.A c.R m q = x) := ⟨_, ⟨rfl⟩⟩
              have wkm : IntKind.i64.wrap ((k : Int) - 1) = (q : Int) := by rw [IntWalk.i64_in _ (by omega)]; have := hq.out; omega
              have hPs : P = xk + xp := by have h := hPx.out; rw [if_neg (by have := hq.out; omega), show k - 1 = q from (by have := hq.out; omega), hxp.out] at h; exact h
              have wadd : IntKind.i64.wrap ((xk : Int) + (xp : Int)) = (P : Int) := by rw [IntWalk.i64_in _ (by omega)]; omega
              have nq1 : (q : Int) < (n : Int) := by have := hq.out; omega
              have hPk := Keep.mk hPs
              clear hPs
              have hD : dec (c.A m) (c.R m) k = 0 := by unfold dec; rw [if_neg hA, if_neg hRk]
              have hy2 := Keep.mk (hyn.out.trans (by rw [if_neg hA, Nat.add_zero]))
              have ho2 := Keep.mk (hon.out.trans (by rw [if_neg hA, if_neg hRk, Nat.add_zero]))
              have hc2 := Keep.mk (hcut.out.trans (by rw [if_neg (fun h => h.elim hA hRk)]))
              rw [hD] at hq60
              clear hD hyn hon hcut hPx hgt
              go_wp2
              obtain ⟨V1, hV1⟩ : ∃ V, wr.setCell ⟨G, k, none⟩ (.int .i64 (xk : Nat)) = V := ⟨_, rfl⟩
              rw [hV1] at hI1 hW1
              try rw [hV1]
              clear hV1 cGk fGk cgk
              obtain ⟨cG1, fG1⟩ := hI1.out.nx.cell (j := k) (by omega)
              rw [show rcG c.A c.R m k xk k = xk by simp [rcG]] at cG1
              have cgq := cWk.out _ hW1.out q (by have := hq.out; omega)
              rw [hxp.out] at cgq
              have hI2 : Keep (Rc2 w c B G (n + 1) (rcG c.A c.R m k P) va vr m m (fun i => ((yes N d c.A c.R i : Nat) : Int)) (fun i => ((no N d c.A c.R i : Nat) : Int)) (V1.drew.setCell ⟨G, k, none⟩ (.int .i64 (P : Nat)))) := ⟨(hI1.out.after ((Below.refl _ _).drew)).set (by omega) (by simp [rcG]) (fun j _ hj => by unfold rcG; simp [hj]) hga hgr⟩
              have hW2 := Keep.mk ((show NumsAt V1.drew g n 3 (opn c.A c.R m) from hW1.out).other (p := k) hgGn (.int .i64 (P : Nat)))
              refine (wpIn_wide (n := 0)).1 ?_
              refine Manyd.region_many (Cw V1.drew (V1.drew.setCell ⟨G, k, none⟩ (.int .i64 (P : Nat))) 13) hmx (by kernel_rfl) (fun s s' W' h hc => by rw [← show s = s' from funext h]; exact hc) (fun s hs => by unfold Cw; rw [hs 13 (by decide)]; rfl) ?_
              refine Manyd.lex_want (by rfl) (cw_rd (v := .slice (some ⟨G, 0, none⟩) (n + 1) (n + 1)) (by kernel_rfl) (by decide) (by (go_simp; (try rfl); (try (first | done | omega | (intros; omega)))))) ?_
              simp only [Act.put, List.setIfInBounds_toArray, List.set_cons_succ, List.set_cons_zero, Nat.reduceAdd]
              refine Manyd.lex_want (by rfl) (cw_rd (v := .int .i64 k) (by kernel_rfl) (by decide) (by (go_simp; (try rfl); (try (first | done | omega | (intros; omega)))))) ?_
              simp only [Act.put, List.setIfInBounds_toArray, List.set_cons_succ, List.set_cons_zero, Nat.reduceAdd]
              refine Manyd.lex_want (by rfl) (cw_rd (v := .slice (some ⟨G, 0, none⟩) (n + 1) (n + 1)) (by kernel_rfl) (by decide) (by (go_simp; (try rfl); (try (first | done | omega | (intros; omega)))))) ?_
              simp only [Act.put, List.setIfInBounds_toArray, List.set_cons_succ, List.set_cons_zero, Nat.reduceAdd]
              refine Manyd.lex_want (by rfl) (cw_rd (v := .int .i64 k) (by kernel_rfl) (by decide) (by (go_simp; (try rfl); (try (first | done | omega | (intros; omega)))))) ?_
              simp only [Act.put, List.setIfInBounds_toArray, List.set_cons_succ, List.set_cons_zero, Nat.reduceAdd]
              refine Manyd.lex_want (by rfl) (cw_rd (v := .pointer (some ⟨G, k, none⟩)) (by kernel_rfl) (by decide) (by (go_simp; (try rfl); (try (first | done | omega | (intros; omega)))))) ?_
              simp only [Act.put, List.setIfInBounds_toArray, List.set_cons_succ, List.set_cons_zero, Nat.reduceAdd]
              refine Manyd.lex_want (by rfl) (cw_rd (v := .int .i64 (xk : Nat)) (by kernel_rfl) (by decide) (by (go_simp; (try rfl); (try (first | done | omega | (intros; omega)))))) ?_
              simp only [Act.put, List.setIfInBounds_toArray, List.set_cons_succ, List.set_cons_zero, Nat.reduceAdd]
              refine Manyd.lex_want (by rfl) (cw_rd (v := .slice (some ⟨g, 0, none⟩) n n) (by kernel_rfl) (by decide) (by (go_simp; (try rfl); (try (first | done | omega | (intros; omega)))))) ?_
              simp only [Act.put, List.setIfInBounds_toArray, List.set_cons_succ, List.set_cons_zero, Nat.reduceAdd]
              refine Manyd.lex_want (by rfl) (cw_rd (v := .int .i64 k) (by kernel_rfl) (by decide) (by (go_simp; (try rfl); (try (first | done | omega | (intros; omega)))))) ?_
              simp only [Act.put, List.setIfInBounds_toArray, List.set_cons_succ, List.set_cons_zero, Nat.reduceAdd]
              refine Manyd.lex_want (by rfl) (cw_rd (v := .int .i64 (q : Nat)) (by kernel_rfl) (by decide) (by (go_simp; (try rfl); (try (first | done | omega | (intros; omega)))))) ?_
              simp only [Act.put, List.setIfInBounds_toArray, List.set_cons_succ, List.set_cons_zero, Nat.reduceAdd]
              refine Manyd.lex_want (by rfl) (cw_rd (v := .pointer (some ⟨g, q, none⟩)) (by kernel_rfl) (by decide) (by (go_simp; (try rfl); (try (first | done | omega | (intros; omega)))))) ?_
              simp only [Act.put, List.setIfInBounds_toArray, List.set_cons_succ, List.set_cons_zero, Nat.reduceAdd]
              refine Manyd.lex_want (by rfl) (cw_rd (v := .int .i64 (xp : Nat)) (by kernel_rfl) (by decide) (by (go_simp; (try rfl); (try (first | done | omega | (intros; omega)))))) ?_
              simp only [Act.put, List.setIfInBounds_toArray, List.set_cons_succ, List.set_cons_zero, Nat.reduceAdd]
              refine Manyd.lex_want (by rfl) (cw_rd (v := .int .i64 (P : Nat)) (by kernel_rfl) (by decide) (by (go_simp; (try rfl); (try (first | done | omega | (intros; omega)))))) ?_
              simp only [Act.put, List.setIfInBounds_toArray, List.set_cons_succ, List.set_cons_zero, Nat.reduceAdd]
              refine Manyd.lex_want (by rfl) (cw_rd (v := .pointer (some ⟨G, k, none⟩)) (by kernel_rfl) (by decide) (by (go_simp; (try rfl); (try (first | done | omega | (intros; omega)))))) ?_
              simp only [Act.put, List.setIfInBounds_toArray, List.set_cons_succ, List.set_cons_zero, Nat.reduceAdd]
              refine Manyd.lex_want (by rfl) (Manyd.tr_step (v := undef) (fun s W hs hd hC => ?_)) ?_
              · unfold Cw at hC
                rw [hs] at hC
                have hWV : W = V1.drew := by simpa using hC
                rw [hWV]
                clear hC hWV hd
                go_simp
                refine ⟨rfl, ?_⟩
                unfold Cw Manyd.upd
                simp
              simp only [Act.put, List.setIfInBounds_toArray, List.set_cons_succ, List.set_cons_zero, Nat.reduceAdd]
              refine Manyd.lex_nil fun s W' hs hC => ?_
              unfold Cw at hC
              rw [hs 13 (by decide)] at hC
              obtain rfl : W' = (V1.drew.setCell ⟨G, k, none⟩ (.int .i64 (P : Nat))) := by simpa using hC
              clear hC hs
              obtain ⟨V2, hV2⟩ : ∃ U, V1.drew.setCell ⟨G, k, none⟩ (.int .i64 (P : Nat)) = U := ⟨_, rfl⟩
              rw [hV2] at hI2 hW2
              rw [hV2]
              clear hV2 cG1 fG1 cgq hI1 hW1
              go_wp2
              obtain ⟨cG2, fG2⟩ := hI2.out.nx.cell (j := k) (by omega)
              rw [show rcG c.A c.R m k P k = P by simp [rcG]] at cG2
              go_quiet (first | (go_at_call 21; with_reducible exact Calls.quiet_of_same (q21 _)))
              obtain ⟨V3, hV3⟩ : ∃ U, V2.drewN nq = U := ⟨_, rfl⟩
              have b3 : Below V2.heap.size V2 V3 := by rw [← hV3]; exact below_drewN (Below.refl _ _) nq
              have hI3 := Keep.mk (hI2.out.after b3)
              have hW3 := Keep.mk (hW2.out.below b3 hW2.out.lt)
              rw [hV3]
              clear hV3 b3 cG2 fG2 hI2 hW2 q21
              obtain ⟨b0, b1, _, _⟩ := hcells.out _ hI3.out.box
              have q60 := hq60.out _ hI3.out.box
              go_wp2_with (first
                | (go_at_call 60; (with_reducible refine q60.mono ?_); rintro e w5 ⟨rfl, hb5⟩
                   have hI5 := Keep.mk (hI3.out.after hb5)
                   have hW5 := Keep.mk (hW3.out.below hb5 hW3.out.lt)
                   obtain ⟨cG5, fG5⟩ := hI5.out.nx.cell (j := k) (by omega)
                   clear hb5))
              have hz := hI5.out.fn (F' := rcF c.A c.R m (k + 1)) (rc_none hc2.out)
              exact ⟨⟨k + 1, by omega, by go_num, by rw [hy2.out], by rw [ho2.out], ⟨hz⟩, hW5⟩, by simp [intOf]; omega⟩
        · have hke : k = n + 1 := by omega
          subst hke
          have hnle : ¬ ((n : Int) + 1 ≤ (n : Int)) := by omega
          obtain ⟨Yv, hYv⟩ : ∃ y, Keep (yesTo N d c.A c.R m (n + 1) = y) := ⟨_, ⟨rfl⟩⟩
          obtain ⟨Ov, hOv⟩ : ∃ y, Keep (noTo N d c.A c.R m (n + 1) = y) := ⟨_, ⟨rfl⟩⟩
          have hrA : Keep (rowL (fun i => ((yes N d c.A c.R i : Nat) : Int)) m ++ [.int .i64 (Yv : Nat)] = rowL (fun i => ((yes N d c.A c.R i : Nat) : Int)) (m + 1)) := ⟨by rw [rowL_succ, ← hYv.out, hnm.out]; rfl⟩
          have hrR : Keep (rowL (fun i => ((no N d c.A c.R i : Nat) : Int)) m ++ [.int .i64 (Ov : Nat)] = rowL (fun i => ((no N d c.A c.R i : Nat) : Int)) (m + 1)) := ⟨by rw [rowL_succ, ← hOv.out, hnm.out]; rfl⟩
          rw [hYv.out, hOv.out]
          have hIe : Keep (Rc2 w c B G (n + 1) (opn c.A c.R n) va vr m m (fun i => ((yes N d c.A c.R i : Nat) : Int)) (fun i => ((no N d c.A c.R i : Nat) : Int)) wr) := ⟨hI.out.fn (fun j hj => by unfold rcF; rw [if_pos hj, hnm.out])⟩
          have t1 : Keep True := ⟨trivial⟩
          clear hI hW hYv hOv hI0 hW0 q60k hmk40 hR
          go_wp2_with (first
          | (at_builtin; go_loud (
               clear t1
               refine wpList_append_own_at _ rfl _ _ 40 rfl B 3 i0 (.int .i64 0) 1 8 ty40 hi hz0 hz1 hz2 rfl (by decide) _ _ _ rfl (row_keep hIe.out.a ((Below.refl _ wr).alloc (Nat.le_refl _) _)) ⟨wr.heap.size, 0, none⟩ 1 1 [.int .i64 (Yv : Nat)] rfl rfl (cell_one_new _ _ _) (fun x hx => by simp at hx; subst hx; rfl) (by unfold maxLen; have := hnm.out; omega) (by have := hnm.out; omega) (by have := hIe.out.gB; have := hIe.out.nx.lt; simp; omega) ?_
               intro v3 w3 ho hg hn hb
               have hI3 := Keep.mk (hIe.out.growA hrA.out ho hg hb hga hgr)
               have t2 : Keep True := ⟨trivial⟩
               clear ho hg hn hb hIe))
          | (at_builtin; go_loud (
             clear t2
             refine wpList_append_own_at _ rfl _ _ 40 rfl B 3 i0 (.int .i64 0) 1 8 ty40 hi hz0 hz1 hz2 rfl (by decide) _ _ _ rfl (row_keep hI3.out.r ((Below.refl _ w3).alloc (Nat.le_refl _) _)) ⟨w3.heap.size, 0, none⟩ 1 1 [.int .i64 (Ov : Nat)] rfl rfl (cell_one_new _ _ _) (fun x hx => by simp at hx; subst hx; rfl) (by unfold maxLen; have := hnm.out; omega) (by have := hnm.out; omega) (by have := hI3.out.gB; have := hI3.out.nx.lt; simp; omega) ?_
             intro v4 w4 ho hg hn hb
             have hI4 := Keep.mk (hI3.out.growR hrR.out ho hg hb hga hgr)
             have t3 : Keep True := ⟨trivial⟩
             clear ho hg hn hb hI3)))
          exact ⟨⟨n, n + 1, G, ⟨rfl⟩, by omega, by omega, by go_num, rfl, v3, v4, rfl, rfl, ⟨by have h := hI4.out; rw [← hnm.out] at h; exact h⟩⟩, by simp [intOf]; omega⟩
    · have hle : ¬ (n : Int) ≤ (L : Int) := by omega
      have hmL : m = L := by have := hnm.out; omega
      subst hmL
      go_wp2
      refine bodyPost_ret (v := .tuple #[va, vr]) (by simp [results, Try.results36, go_sem]; try go_simp) rfl ?_
      have hle2 : w.heap.size ≤ B := by have := hR.out.hB; omega
      exact ⟨va, vr, rfl, row_low hR.out.a hle2, row_low hR.out.r hle2, hR.out.bw⟩
end Go.Proofs.Ytbmfipjnfbnjgaa
