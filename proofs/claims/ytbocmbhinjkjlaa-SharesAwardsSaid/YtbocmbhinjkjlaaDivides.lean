/- Awards: Divides of the reference. -/
import Derived.Test.YtbocmbhinjkjlaaAward
set_option linter.unusedSimpArgs false
set_option linter.unusedVariables false
namespace Go.Proofs.Ytbocmbhinjkjlaa
open Go Go.Proofs Go.RowKit Go.Seq
theorem Kv.cell {b g k : Nat} {W W' : World} {v : Value} (h : Kv b W W') (ho : W.cell? ⟨g, k, none⟩ = some v) (hn : g ≠ b) : W'.cell? ⟨g, k, none⟩ = some v := by
  have hl : g < W.heap.size := by
    rcases Nat.lt_or_ge g W.heap.size with h' | h'
    · exact h'
    · simp [World.cell?, Array.getElem?_eq_none h'] at ho
  exact (World.cell?_of_block (a := ⟨g, k, none⟩) (h.block g hl hn)).trans ho
/-- The class of a region whose one variable is read by operation j, and stored into by L, behind m. -/
structure C1K (W0 : World) (b L m j : Nat) (o n : Array Value) (ty : TypeId) (t : Nat → Bool) (W : World) : Prop where
  kv : Kv b W0 W
  bv : BlkAt W b (if t L = true then n else o) ty
  eL : t L = true → t j = true
  em : t m = true → t j = true
section
variable {W0 W W' : World} {b L m j : Nat} {o n : Array Value} {ty : TypeId} {t : Nat → Bool}
theorem C1K.start (hb : BlkAt W0 b o ty) (hL : t L = false) (hm : t m = false) : C1K W0 b L m j o n ty t W0.drew :=
  ⟨⟨rfl, rfl, rfl, Nat.le_refl _, fun _ _ _ => rfl⟩, by rw [hL]; exact hb, (fun h => by rw [hL] at h; cases h), (fun h => by rw [hm] at h; cases h)⟩
theorem upd_keep {t : Nat → Bool} {i j : Nat} (h : t j = true) : Manyd.upd t i j = true := by simp [Manyd.upd, h]
theorem C1K.keep {i : Nat} (hi : (i == L) = false) (hm : (i == m) = false) (h : C1K W0 b L m j o n ty t W) : C1K W0 b L m j o n ty (Manyd.upd t i) W :=
  ⟨h.kv, by rw [upd_ne hi]; exact h.bv, by rw [upd_ne hi]; exact fun k => upd_keep (h.eL k), by rw [upd_ne hm]; exact fun k => upd_keep (h.em k)⟩
theorem C1K.mid (hj : t j = true) (hne : (m == L) = false) (h : C1K W0 b L m j o n ty t W) : C1K W0 b L m j o n ty (Manyd.upd t m) W :=
  ⟨h.kv, by rw [upd_ne hne]; exact h.bv, fun _ => upd_keep hj, fun _ => upd_keep hj⟩
theorem C1K.after (h : C1K W0 b L m j o n ty t W) (hb : Below W.heap.size W W') : C1K W0 b L m j o n ty t W' := ⟨h.kv.trans (Kv.of hb), h.bv.after hb, h.eL, h.em⟩
theorem C1K.own {x y : Value} (h : C1K W0 b L m j #[x, y] n ty t W) (hL : t L = false) : Own2 W b x y := by
  have := h.bv
  rw [hL] at this
  exact Own2.of this
theorem C1K.own0 {x y : Value} (h : C1K W0 b L m j #[x, y] n ty t W) (hj : t j = false) : Own2 W b x y := h.own (by
  cases e : t L with
  | false => rfl
  | true => rw [h.eL e] at hj; cases hj)
theorem C1K.set {x y x0 y0 : Value} (hm : t m = true) (hL : t L = false) (h : C1K W0 b L m j #[x0, y0] #[x, y] ty t W) : C1K W0 b L m j #[x0, y0] #[x, y] ty (Manyd.upd t L) ((W.setCell ⟨b, 0, none⟩ x).setCell ⟨b, 1, none⟩ y) := by
  have hb := h.bv
  rw [hL] at hb
  refine ⟨(h.kv.set _ _).set _ _, ?_, fun _ => upd_keep (h.em hm), fun _ => upd_keep (h.em hm)⟩
  rw [if_pos (by simp [Manyd.upd])]
  exact (hb.set 0 x).set 1 y
end
theorem lt_of_cell {W : World} {g k : Nat} {v : Value} (ho : W.cell? ⟨g, k, none⟩ = some v) : g < W.heap.size := by
  rcases Nat.lt_or_ge g W.heap.size with h' | h'
  · exact h'
  · simp [World.cell?, Array.getElem?_eq_none h'] at ho
set_option maxHeartbeats 8000000 in
set_option maxRecDepth 100000 in
theorem divides_any {sl v : Value} {zs : List Int} {E : Int} {l : Pts} {w : World} (hc : IntsO w sl zs) (hzb : ∀ z ∈ zs, 0 ≤ z ∧ z ≤ 1000) (hlz : zs.length ≤ 10) (hv : FracsO w v l) (hw : Wide l) (hlen : l.length ≤ 1000) :
    Calls Try.prog 32 #[sl, .int .i64 E, v] w fun r w' => r = .returned (.bool (awB zs E l)) ∧ Below w.heap.size w w' := by
  obtain ⟨D, hD⟩ : ∃ D, Keep (awB zs E l = D) := ⟨_, ⟨rfl⟩⟩
  rw [hD.out]
  obtain ⟨A, cap, rfl, hcell⟩ := hv
  obtain ⟨Z, cz, rfl, hzell⟩ := hc
  by_cases hlz2 : l.length = zs.length
  case neg =>
    have hb : Keep (D = false) := ⟨by rw [← hD.out]; exact decide_eq_false fun h => hlz2 h.1⟩
    have hne : ¬ (l.length : Int) = (zs.length : Int) := by omega
    clear hlz2 hD hcell hzell hzb hw
    go_enter Try.func32, Try.ntmps32
    go_wp2
    go_ret
    exact ⟨by rw [hb.out]; rfl, Below.refl _ _⟩
  have q290 := fun w => refWhole_any 0 w
  have q29e := fun w => refWhole_any E w
  have e0 : redV (sumT (l.take 0)) MM = fracV 0 1 := redV_zero (by decide)
  unfold fracV at q290 e0 q29e
  have hle : (l.length : Int) = (zs.length : Int) := by omega
  go_enter Try.func32, Try.ntmps32
  go_wp2_with (go_at_call 29; (with_reducible refine (q290 _).mono ?_); rintro e w6 ⟨rfl, hb6⟩
               obtain ⟨w7, hw7⟩ : ∃ w7, w6.alloc (.cells #[.int .i64 0, .int .i64 1] 37) = w7 := ⟨_, rfl⟩
               have hb7 : Below w6.heap.size w6 w7 := by rw [← hw7]; exact (Below.refl _ _).alloc (Nat.le_refl _) _
               have o4 : BlkAt w7 w6.heap.size #[.int .i64 0, .int .i64 1] 37 := by rw [← hw7]; exact BlkAt.new _ _ _
               have hbw7 := hb6.trans (hb7.mono hb6.size)
               have hg4 := hb6.size
               clear hb6 hb7 q290)
  obtain ⟨G, hG⟩ : ∃ G, w6.heap.size = G := ⟨_, rfl⟩
  rw [hG] at o4 hg4 ⊢
  clear hG
  go_loopw [8] (fun i wr => ∃ k : Nat, k ≤ l.length ∧ i = .int .i64 k ∧ Below w.heap.size w wr ∧ BlkAt wr G #[.int .i64 (redN (sumT (l.take k)) MM), .int .i64 (redD (sumT (l.take k)) MM)] 37 ∧ Keep (∀ i, i < k → okA (zs.getD i 0) (l.getD i (0, 0)) = true)) (fun i _ => l.length - (intOf i).toNat)
  case atStart =>
    refine ⟨0, by omega, rfl, hbw7, ?_, ⟨fun i hi => by omega⟩⟩
    unfold redV fracV at e0
    injection e0 with e0
    rw [e0]; exact o4
  case round =>
    obtain ⟨k, hk, rfl, hbw, b4, hall⟩ := hrel
    have hbz := hbw.size
    by_cases hlt : k < l.length
    · obtain ⟨g', o', rfl, hz1, hz2⟩ := hcell k hlt
      obtain ⟨g, o, rfl, hzc⟩ := hzell k (by omega)
      have hltz : k < zs.length := by omega
      have hgl := lt_of_cell hz1
      have hz1 := cell_below hz1 hbw
      have hz2 := cell_below hz2 hbw
      have hzc := cell_below hzc hbw
      obtain ⟨i1, i2⟩ := hw _ (getp hlt)
      have q72 := fun w => within_any i1 i2 0 20000 20 (by omega) w
      have hcb := hzb _ (getz hltz)
      have hs : -2327925600000000 ≤ sumT (l.take k) ∧ sumT (l.take k) ≤ 2327925600000000 := by
        have h : ∀ z ∈ l.take k, okT z = true := all_of_getp (l := l.take k) (p := fun z => okT z = true) fun i hi => by
          rw [List.length_take] at hi
          rw [take_getp (by omega)]; exact okA_okT (hall.out i (by omega))
        have := sumT_bound h k
        rw [List.take_take, Nat.min_self] at this
        omega
      have ht := Keep.mk (sumT_take hlt)
      have hok : withinB (l.getD k (0, 0)).1 (l.getD k (0, 0)).2 0 20000 20 = true → ¬ zs.getD k 0 * (l.getD k (0, 0)).2 < (l.getD k (0, 0)).1 → okA (zs.getD k 0) (l.getD k (0, 0)) = true := fun h1 h2 => by
        unfold okA; rw [h1, Bool.true_and]; exact decide_eq_true (by omega)
      have hall2 : okA (zs.getD k 0) (l.getD k (0, 0)) = true → Keep (∀ i, i < k + 1 → okA (zs.getD i 0) (l.getD i (0, 0)) = true) := fun h => ⟨fun i hi => by
        rcases Nat.lt_or_ge i k with h' | h'
        · exact hall.out i h'
        · obtain rfl : i = k := by omega
          exact h⟩
      have hbad : ¬ okA (zs.getD k 0) (l.getD k (0, 0)) = true → Keep (D = false) := fun h => ⟨by
        rw [← hD.out]
        exact decide_eq_false fun hh => h (hh.2.1 _ hlt)⟩
      generalize l.getD k (0, 0) = z at hz1 hz2 q72 hok hall2 hbad i1 i2 ht
      generalize zs.getD k 0 = c at hzc hok hall2 hbad hcb
      obtain ⟨n, d⟩ := z
      simp only at hz1 hz2 q72 hok i1 i2
      have q29 := fun w => refWhole_any c w
      unfold fracV at q72 q29
      clear hall hcell hzell hw hzb hD e0
      cases hV : withinB n d 0 20000 20 with
      | false =>
        rw [hV] at q72
        have hb := hbad fun h => by
          unfold okA at h
          simp only [hV] at h
          cases h
        clear hall2 hbad hok hV
        go_wp2
        refine (wpIn_wide (n := 0)).1 ?_
        refine Many.region_many (Cb wr) mixed_ok (by kernel_rfl) (fun _ _ _ _ h => h) (fun s _ => Cb.start wr s) ?_
        refine Many.lex_want (by rfl) (rdb (fun w hb => by (go_simp; try rfl))) ?_
        simp only [Act.put, List.setIfInBounds_toArray, List.set_cons_succ, List.set_cons_zero, Nat.reduceAdd]
        refine Many.lex_want (by rfl) (rdb (fun w hb => by (go_simp; try rfl))) ?_
        simp only [Act.put, List.setIfInBounds_toArray, List.set_cons_succ, List.set_cons_zero, Nat.reduceAdd]
        refine Many.lex_want (by rfl) (rdb (v := .pointer (some ⟨g', o' + k * 2, none⟩)) (fun w hb => by (have hk := hlt; go_simp; try rfl))) ?_
        simp only [Act.put, List.setIfInBounds_toArray, List.set_cons_succ, List.set_cons_zero, Nat.reduceAdd]
        refine Many.lex_want (by rfl) (rdb (v := .agg #[.int .i64 n, .int .i64 d]) (fun w hb => by (have c0 := cell_below hz1 hb; have c1 := cell_below hz2 hb; go_simp; try rfl))) ?_
        simp only [Act.put, List.setIfInBounds_toArray, List.set_cons_succ, List.set_cons_zero, Nat.reduceAdd]
        refine Many.lex_want (by rfl) (clb q72 (fun w hb => by (go_simp; try rfl))) ?_
        simp only [Act.put, List.setIfInBounds_toArray, List.set_cons_succ, List.set_cons_zero, Nat.reduceAdd]
        refine Many.lex_want (by rfl) (rdb (v := .bool true) (fun w hb => by (skip; go_simp; try rfl))) ?_
        simp only [Act.put, List.setIfInBounds_toArray, List.set_cons_succ, List.set_cons_zero, Nat.reduceAdd]
        refine Many.lex_want (by rfl) (rdb (v := .bool true) (fun w hb => by (skip; go_simp; try rfl))) ?_
        simp only [Act.put, List.setIfInBounds_toArray, List.set_cons_succ, List.set_cons_zero, Nat.reduceAdd]
        refine lex_skip (by rfl) Cb.keep ?_
        simp only [Act.put, List.setIfInBounds_toArray, List.set_cons_succ, List.set_cons_zero, Nat.reduceAdd]
        refine lex_skip (by rfl) Cb.keep ?_
        simp only [Act.put, List.setIfInBounds_toArray, List.set_cons_succ, List.set_cons_zero, Nat.reduceAdd]
        refine lex_skip (by rfl) Cb.keep ?_
        simp only [Act.put, List.setIfInBounds_toArray, List.set_cons_succ, List.set_cons_zero, Nat.reduceAdd]
        refine lex_skip (by rfl) Cb.keep ?_
        simp only [Act.put, List.setIfInBounds_toArray, List.set_cons_succ, List.set_cons_zero, Nat.reduceAdd]
        refine lex_skip (by rfl) Cb.keep ?_
        simp only [Act.put, List.setIfInBounds_toArray, List.set_cons_succ, List.set_cons_zero, Nat.reduceAdd]
        refine lex_skip (by rfl) Cb.keep ?_
        simp only [Act.put, List.setIfInBounds_toArray, List.set_cons_succ, List.set_cons_zero, Nat.reduceAdd]
        refine lex_skip (by rfl) Cb.keep ?_
        simp only [Act.put, List.setIfInBounds_toArray, List.set_cons_succ, List.set_cons_zero, Nat.reduceAdd]
        refine lex_skip (by rfl) Cb.keep ?_
        simp only [Act.put, List.setIfInBounds_toArray, List.set_cons_succ, List.set_cons_zero, Nat.reduceAdd]
        refine lex_skip (by rfl) Cb.keep ?_
        simp only [Act.put, List.setIfInBounds_toArray, List.set_cons_succ, List.set_cons_zero, Nat.reduceAdd]
        refine lex_skip (by rfl) Cb.keep ?_
        simp only [Act.put, List.setIfInBounds_toArray, List.set_cons_succ, List.set_cons_zero, Nat.reduceAdd]
        refine Many.lex_want (by rfl) (rdb (v := .bool true) (fun w hb => by (skip; go_simp; try rfl))) ?_
        simp only [Act.put, List.setIfInBounds_toArray, List.set_cons_succ, List.set_cons_zero, Nat.reduceAdd]
        refine Many.lex_nil fun s W1 hs hC => ?_
        have hC : Below wr.heap.size wr W1 := hC
        have hbw9 := hbw.trans (hC.mono hbz)
        go_wp2
        go_ret
        exact ⟨by rw [hb.out]; rfl, hbw9⟩
      | true =>
        rw [hV] at q72
        obtain ⟨hd1, hd2, hn1, hn2, _⟩ : 1 ≤ d ∧ d ≤ 20 ∧ 0 ≤ n ∧ n ≤ 20000 ∧ Int.gcd n d = 1 := of_decide_eq_true hV
        have m1 : c * d ≤ 1000 * d := Int.mul_le_mul_of_nonneg_right hcb.2 (by omega)
        have m2 : 0 ≤ c * d := Int.mul_nonneg hcb.1 (by omega)
        have q53 := fun w => refLess_any (a := c) (b := 1) (c := n) (d := d) ⟨by omega, by omega⟩ ⟨by omega, by omega⟩ w
        rw [Int.mul_one] at q53
        unfold fracV at q53
        by_cases k2 : c * d < n
        · have hb := hbad fun h => by
            obtain ⟨h1, h2, h3, h4, h5, h6⟩ := okA_parts h
            simp only at h6; omega
          rw [decide_eq_true k2] at q53
          clear hall2 hbad hok hV m1 m2 hd1 hd2 hn1 hn2
          go_wp2
          refine (wpIn_wide (n := 0)).1 ?_
          refine Many.region_many (Cb wr) mixed_ok (by kernel_rfl) (fun _ _ _ _ h => h) (fun s _ => Cb.start wr s) ?_
          refine Many.lex_want (by rfl) (rdb (fun w hb => by (go_simp; try rfl))) ?_
          simp only [Act.put, List.setIfInBounds_toArray, List.set_cons_succ, List.set_cons_zero, Nat.reduceAdd]
          refine Many.lex_want (by rfl) (rdb (fun w hb => by (go_simp; try rfl))) ?_
          simp only [Act.put, List.setIfInBounds_toArray, List.set_cons_succ, List.set_cons_zero, Nat.reduceAdd]
          refine Many.lex_want (by rfl) (rdb (v := .pointer (some ⟨g', o' + k * 2, none⟩)) (fun w hb => by (have hk := hlt; go_simp; try rfl))) ?_
          simp only [Act.put, List.setIfInBounds_toArray, List.set_cons_succ, List.set_cons_zero, Nat.reduceAdd]
          refine Many.lex_want (by rfl) (rdb (v := .agg #[.int .i64 n, .int .i64 d]) (fun w hb => by (have c0 := cell_below hz1 hb; have c1 := cell_below hz2 hb; go_simp; try rfl))) ?_
          simp only [Act.put, List.setIfInBounds_toArray, List.set_cons_succ, List.set_cons_zero, Nat.reduceAdd]
          refine Many.lex_want (by rfl) (clb q72 (fun w hb => by (go_simp; try rfl))) ?_
          simp only [Act.put, List.setIfInBounds_toArray, List.set_cons_succ, List.set_cons_zero, Nat.reduceAdd]
          refine Many.lex_want (by rfl) (rdb (v := .bool false) (fun w hb => by (skip; go_simp; try rfl))) ?_
          simp only [Act.put, List.setIfInBounds_toArray, List.set_cons_succ, List.set_cons_zero, Nat.reduceAdd]
          refine Many.lex_want (by rfl) (rdb (v := .bool false) (fun w hb => by (skip; go_simp; try rfl))) ?_
          simp only [Act.put, List.setIfInBounds_toArray, List.set_cons_succ, List.set_cons_zero, Nat.reduceAdd]
          refine Many.lex_want (by rfl) (rdb (fun w hb => by (go_simp; try rfl))) ?_
          simp only [Act.put, List.setIfInBounds_toArray, List.set_cons_succ, List.set_cons_zero, Nat.reduceAdd]
          refine Many.lex_want (by rfl) (rdb (fun w hb => by (go_simp; try rfl))) ?_
          simp only [Act.put, List.setIfInBounds_toArray, List.set_cons_succ, List.set_cons_zero, Nat.reduceAdd]
          refine Many.lex_want (by rfl) (rdb (v := .pointer (some ⟨g, o + k, none⟩)) (fun w hb => by (have hk := hltz; go_simp; try rfl))) ?_
          simp only [Act.put, List.setIfInBounds_toArray, List.set_cons_succ, List.set_cons_zero, Nat.reduceAdd]
          refine Many.lex_want (by rfl) (rdb (v := .int .i64 c) (fun w hb => by (have hc := cell_below hzc hb; go_simp; try rfl))) ?_
          simp only [Act.put, List.setIfInBounds_toArray, List.set_cons_succ, List.set_cons_zero, Nat.reduceAdd]
          refine Many.lex_want (by rfl) (clb q29 (fun w hb => by (go_simp; try rfl))) ?_
          simp only [Act.put, List.setIfInBounds_toArray, List.set_cons_succ, List.set_cons_zero, Nat.reduceAdd]
          refine Many.lex_want (by rfl) (rdb (fun w hb => by (go_simp; try rfl))) ?_
          simp only [Act.put, List.setIfInBounds_toArray, List.set_cons_succ, List.set_cons_zero, Nat.reduceAdd]
          refine Many.lex_want (by rfl) (rdb (fun w hb => by (go_simp; try rfl))) ?_
          simp only [Act.put, List.setIfInBounds_toArray, List.set_cons_succ, List.set_cons_zero, Nat.reduceAdd]
          refine Many.lex_want (by rfl) (rdb (v := .pointer (some ⟨g', o' + k * 2, none⟩)) (fun w hb => by (have hk := hlt; go_simp; try rfl))) ?_
          simp only [Act.put, List.setIfInBounds_toArray, List.set_cons_succ, List.set_cons_zero, Nat.reduceAdd]
          refine Many.lex_want (by rfl) (rdb (v := .agg #[.int .i64 n, .int .i64 d]) (fun w hb => by (have c0 := cell_below hz1 hb; have c1 := cell_below hz2 hb; go_simp; try rfl))) ?_
          simp only [Act.put, List.setIfInBounds_toArray, List.set_cons_succ, List.set_cons_zero, Nat.reduceAdd]
          refine Many.lex_want (by rfl) (clb q53 (fun w hb => by (go_simp; try rfl))) ?_
          simp only [Act.put, List.setIfInBounds_toArray, List.set_cons_succ, List.set_cons_zero, Nat.reduceAdd]
          refine Many.lex_want (by rfl) (rdb (v := .bool true) (fun w hb => by (skip; go_simp; try rfl))) ?_
          simp only [Act.put, List.setIfInBounds_toArray, List.set_cons_succ, List.set_cons_zero, Nat.reduceAdd]
          refine Many.lex_nil fun s W1 hs hC => ?_
          have hC : Below wr.heap.size wr W1 := hC
          have hbw9 := hbw.trans (hC.mono hbz)
          go_wp2
          go_ret
          exact ⟨by rw [hb.out]; rfl, hbw9⟩
        have hzt := hok hV k2
        rw [decide_eq_false k2] at q53
        have hb := hall2 hzt
        have qs := fun w => refAdd_step (S := sumT (l.take k)) (n := n) (d := d) hs (okA_okT hzt) w
        simp only at ht
        rw [← ht.out] at qs
        obtain ⟨S1, hS1⟩ : ∃ S1, Keep (sumT (l.take (k + 1)) = S1) := ⟨_, ⟨rfl⟩⟩
        rw [hS1.out] at qs
        generalize sumT (l.take k) = S0 at *
        unfold redV fracV at qs
        obtain ⟨y0, hy0⟩ : ∃ y0, Keep (redN S1 MM = y0) := ⟨_, ⟨rfl⟩⟩
        obtain ⟨y1, hy1⟩ : ∃ y1, Keep (redD S1 MM = y1) := ⟨_, ⟨rfl⟩⟩
        rw [hy0.out, hy1.out] at qs
        generalize redN S0 MM = x0 at *
        generalize redD S0 MM = x1 at *
        clear hall2 hbad hok hV m1 m2 ht hzt hs hd1 hd2 hn1 hn2 k2
        go_wp2
        refine (wpIn_wide (n := 0)).1 ?_
        refine Many.region_many (Cb wr) mixed_ok (by kernel_rfl) (fun _ _ _ _ h => h) (fun s _ => Cb.start wr s) ?_
        refine Many.lex_want (by rfl) (rdb (fun w hb => by (go_simp; try rfl))) ?_
        simp only [Act.put, List.setIfInBounds_toArray, List.set_cons_succ, List.set_cons_zero, Nat.reduceAdd]
        refine Many.lex_want (by rfl) (rdb (fun w hb => by (go_simp; try rfl))) ?_
        simp only [Act.put, List.setIfInBounds_toArray, List.set_cons_succ, List.set_cons_zero, Nat.reduceAdd]
        refine Many.lex_want (by rfl) (rdb (v := .pointer (some ⟨g', o' + k * 2, none⟩)) (fun w hb => by (have hk := hlt; go_simp; try rfl))) ?_
        simp only [Act.put, List.setIfInBounds_toArray, List.set_cons_succ, List.set_cons_zero, Nat.reduceAdd]
        refine Many.lex_want (by rfl) (rdb (v := .agg #[.int .i64 n, .int .i64 d]) (fun w hb => by (have c0 := cell_below hz1 hb; have c1 := cell_below hz2 hb; go_simp; try rfl))) ?_
        simp only [Act.put, List.setIfInBounds_toArray, List.set_cons_succ, List.set_cons_zero, Nat.reduceAdd]
        refine Many.lex_want (by rfl) (clb q72 (fun w hb => by (go_simp; try rfl))) ?_
        simp only [Act.put, List.setIfInBounds_toArray, List.set_cons_succ, List.set_cons_zero, Nat.reduceAdd]
        refine Many.lex_want (by rfl) (rdb (v := .bool false) (fun w hb => by (skip; go_simp; try rfl))) ?_
        simp only [Act.put, List.setIfInBounds_toArray, List.set_cons_succ, List.set_cons_zero, Nat.reduceAdd]
        refine Many.lex_want (by rfl) (rdb (v := .bool false) (fun w hb => by (skip; go_simp; try rfl))) ?_
        simp only [Act.put, List.setIfInBounds_toArray, List.set_cons_succ, List.set_cons_zero, Nat.reduceAdd]
        refine Many.lex_want (by rfl) (rdb (fun w hb => by (go_simp; try rfl))) ?_
        simp only [Act.put, List.setIfInBounds_toArray, List.set_cons_succ, List.set_cons_zero, Nat.reduceAdd]
        refine Many.lex_want (by rfl) (rdb (fun w hb => by (go_simp; try rfl))) ?_
        simp only [Act.put, List.setIfInBounds_toArray, List.set_cons_succ, List.set_cons_zero, Nat.reduceAdd]
        refine Many.lex_want (by rfl) (rdb (v := .pointer (some ⟨g, o + k, none⟩)) (fun w hb => by (have hk := hltz; go_simp; try rfl))) ?_
        simp only [Act.put, List.setIfInBounds_toArray, List.set_cons_succ, List.set_cons_zero, Nat.reduceAdd]
        refine Many.lex_want (by rfl) (rdb (v := .int .i64 c) (fun w hb => by (have hc := cell_below hzc hb; go_simp; try rfl))) ?_
        simp only [Act.put, List.setIfInBounds_toArray, List.set_cons_succ, List.set_cons_zero, Nat.reduceAdd]
        refine Many.lex_want (by rfl) (clb q29 (fun w hb => by (go_simp; try rfl))) ?_
        simp only [Act.put, List.setIfInBounds_toArray, List.set_cons_succ, List.set_cons_zero, Nat.reduceAdd]
        refine Many.lex_want (by rfl) (rdb (fun w hb => by (go_simp; try rfl))) ?_
        simp only [Act.put, List.setIfInBounds_toArray, List.set_cons_succ, List.set_cons_zero, Nat.reduceAdd]
        refine Many.lex_want (by rfl) (rdb (fun w hb => by (go_simp; try rfl))) ?_
        simp only [Act.put, List.setIfInBounds_toArray, List.set_cons_succ, List.set_cons_zero, Nat.reduceAdd]
        refine Many.lex_want (by rfl) (rdb (v := .pointer (some ⟨g', o' + k * 2, none⟩)) (fun w hb => by (have hk := hlt; go_simp; try rfl))) ?_
        simp only [Act.put, List.setIfInBounds_toArray, List.set_cons_succ, List.set_cons_zero, Nat.reduceAdd]
        refine Many.lex_want (by rfl) (rdb (v := .agg #[.int .i64 n, .int .i64 d]) (fun w hb => by (have c0 := cell_below hz1 hb; have c1 := cell_below hz2 hb; go_simp; try rfl))) ?_
        simp only [Act.put, List.setIfInBounds_toArray, List.set_cons_succ, List.set_cons_zero, Nat.reduceAdd]
        refine Many.lex_want (by rfl) (clb q53 (fun w hb => by (go_simp; try rfl))) ?_
        simp only [Act.put, List.setIfInBounds_toArray, List.set_cons_succ, List.set_cons_zero, Nat.reduceAdd]
        refine Many.lex_want (by rfl) (rdb (v := .bool false) (fun w hb => by (skip; go_simp; try rfl))) ?_
        simp only [Act.put, List.setIfInBounds_toArray, List.set_cons_succ, List.set_cons_zero, Nat.reduceAdd]
        refine Many.lex_nil fun s W1 hs hC => ?_
        have hC : Below wr.heap.size wr W1 := hC
        have hbw9 := hbw.trans (hC.mono hbz)
        have b49 := b4.after hC
        have hz19 := cell_below hz1 hC
        have hz29 := cell_below hz2 hC
        go_wp2
        refine (wpIn_wide (n := 0)).1 ?_
        refine Inv.region_inv (fun t act W => act = { tmps := #[Value.slice (some ⟨g, o, none⟩) zs.length cz, Value.int IntKind.i64 E, Value.slice (some ⟨g', o', none⟩) zs.length cap, undef, undef, undef, u6, Value.pointer (some ⟨G, 0, none⟩), Value.int IntKind.i64 k, Value.slice (some ⟨g', o', none⟩) zs.length cap, Value.int IntKind.i64 zs.length, Value.slice (some ⟨g, o, none⟩) zs.length cz, Value.int IntKind.i64 zs.length, Value.bool false, Value.agg #[Value.int IntKind.i64 0, Value.int IntKind.i64 1], Value.int IntKind.i64 k, Value.slice (some ⟨g, o, none⟩) zs.length cz, Value.int IntKind.i64 zs.length, Value.bool true, u19, u20, Value.slice (some ⟨g', o', none⟩) zs.length cap, Value.int IntKind.i64 k, Value.pointer (some ⟨g', o' + k * 2, none⟩), Value.agg #[Value.int IntKind.i64 n, Value.int IntKind.i64 d], Value.bool true, Value.bool false, Value.bool false, Value.slice (some ⟨g, o, none⟩) zs.length cz, Value.int IntKind.i64 k, Value.pointer (some ⟨g, o + k, none⟩), Value.int IntKind.i64 c, Value.agg #[Value.int IntKind.i64 c, Value.int IntKind.i64 1], Value.slice (some ⟨g', o', none⟩) zs.length cap, Value.int IntKind.i64 k, Value.pointer (some ⟨g', o' + k * 2, none⟩), Value.agg #[Value.int IntKind.i64 n, Value.int IntKind.i64 d], Value.bool false, Value.bool false, if t 0 = true then .agg #[.int .i64 x0, .int .i64 x1] else u39, if t 1 = true then Value.slice (some ⟨g', o', none⟩) zs.length cap else u40, if t 2 = true then .int .i64 k else u41, if t 3 = true then .pointer (some ⟨g', o' + k * 2, none⟩) else u42, if t 4 = true then .agg #[.int .i64 n, .int .i64 d] else u43, if t 5 = true then .agg #[.int .i64 y0, .int .i64 y1] else u44, undef, undef, undef, undef], defers := [] } ∧ C1K W1 G 6 5 0 #[.int .i64 x0, .int .i64 x1] #[.int .i64 y0, .int .i64 y1] 37 t  W) mixed_ok (by kernel_rfl) ?_ ?_ ?_
        · intro t hs
          refine ⟨?_, C1K.start b49 (hs 6 (by decide)) (hs 5 (by decide))⟩
          simp only [hs 0 (by decide), hs 1 (by decide), hs 2 (by decide), hs 3 (by decide), hs 4 (by decide), hs 5 (by decide), hs 6 (by decide), Bool.false_eq_true, if_false]
        · refine ⟨?_, ?_, ?_, ?_, ?_, ?_, ?_, trivial⟩
          · rintro t act W hun hdep hbeh ⟨rfl, hT⟩
            (try simp only [Nat.reduceAdd] at hun)
            obtain ⟨c50, c51, f50, f51⟩ := hT.own0 hun
            refine .inl ⟨by rfl, Inv.comesV_val (.agg #[.int .i64 x0, .int .i64 x1]) W (by (go_simp; try rfl)) ⟨by (simp only [Act.put, List.setIfInBounds_toArray, List.set_cons_succ, List.set_cons_zero, Manyd.upd, Nat.reduceAdd, Nat.reduceBEq, Bool.or_false, Bool.or_true, if_true]), C1K.keep (i := 0) (by decide) (by decide) hT⟩⟩
          · rintro t act W hun hdep hbeh ⟨rfl, hT⟩
            (try simp only [Nat.reduceAdd] at hun)
            refine .inl ⟨by rfl, Inv.comesV_val (Value.slice (some ⟨g', o', none⟩) zs.length cap) W (by (go_simp; try rfl)) ⟨by (simp only [Act.put, List.setIfInBounds_toArray, List.set_cons_succ, List.set_cons_zero, Manyd.upd, Nat.reduceAdd, Nat.reduceBEq, Bool.or_false, Bool.or_true, if_true]), C1K.keep (i := 1) (by decide) (by decide) hT⟩⟩
          · rintro t act W hun hdep hbeh ⟨rfl, hT⟩
            (try simp only [Nat.reduceAdd] at hun)
            refine .inl ⟨by rfl, Inv.comesV_val (.int .i64 k) W (by (go_simp; try rfl)) ⟨by (simp only [Act.put, List.setIfInBounds_toArray, List.set_cons_succ, List.set_cons_zero, Manyd.upd, Nat.reduceAdd, Nat.reduceBEq, Bool.or_false, Bool.or_true, if_true]), C1K.keep (i := 2) (by decide) (by decide) hT⟩⟩
          · rintro t act W hun hdep hbeh ⟨rfl, hT⟩
            (try simp only [Nat.reduceAdd] at hun)
            have h1 : t 1 = true := Inv.depB_mem 1 hdep (by rfl)
            have h2 : t 2 = true := Inv.depB_mem 2 hdep (by rfl)
            refine .inl ⟨by rfl, Inv.comesV_val (.pointer (some ⟨g', o' + k * 2, none⟩)) W (by (simp only [h1, h2, if_true]; go_simp; try rfl)) ⟨by (simp only [Act.put, List.setIfInBounds_toArray, List.set_cons_succ, List.set_cons_zero, Manyd.upd, Nat.reduceAdd, Nat.reduceBEq, Bool.or_false, Bool.or_true, if_true]), C1K.keep (i := 3) (by decide) (by decide) hT⟩⟩
          · rintro t act W hun hdep hbeh ⟨rfl, hT⟩
            (try simp only [Nat.reduceAdd] at hun)
            have h3 : t 3 = true := Inv.depB_mem 3 hdep (by rfl)
            have c1 := hT.kv.cell hz19 (by omega)
            have c2 := hT.kv.cell hz29 (by omega)
            refine .inl ⟨by rfl, Inv.comesV_val (.agg #[.int .i64 n, .int .i64 d]) W (by (simp only [h3, if_true]; go_simp; try rfl)) ⟨by (simp only [Act.put, List.setIfInBounds_toArray, List.set_cons_succ, List.set_cons_zero, Manyd.upd, Nat.reduceAdd, Nat.reduceBEq, Bool.or_false, Bool.or_true, if_true]), C1K.keep (i := 4) (by decide) (by decide) hT⟩⟩
          · rintro t act W hun hdep hbeh ⟨rfl, hT⟩
            (try simp only [Nat.reduceAdd] at hun)
            have h0 : t 0 = true := Inv.depB_mem 0 hdep (by rfl)
            have h4 : t 4 = true := Inv.depB_mem 4 hdep (by rfl)
            refine .inl ⟨by rfl, Inv.comesV_call 52 #[.agg #[.int .i64 x0, .int .i64 x1], .agg #[.int .i64 n, .int .i64 d]] W (by (simp only [h0, h4, if_true]; go_simp; try rfl)) ((qs W).mono fun e w5 hw5 => ⟨_, hw5.1, by (simp only [Act.put, List.setIfInBounds_toArray, List.set_cons_succ, List.set_cons_zero, Manyd.upd, Nat.reduceAdd, Nat.reduceBEq, Bool.or_false, Bool.or_true, if_true]), C1K.mid h0 (by decide) (hT.after hw5.2)⟩)⟩
          · rintro t act W hun hdep hbeh ⟨rfl, hT⟩
            (try simp only [Nat.reduceAdd] at hun)
            have h5 : t 5 = true := Inv.depB_mem 5 hdep (by rfl)
            obtain ⟨c50, c51, f50, f51⟩ := hT.own hun
            refine .inl ⟨by rfl, Inv.comesV_skip ((W.setCell ⟨G, 0, none⟩ (.int .i64 y0)).setCell ⟨G, 1, none⟩ (.int .i64 y1)) (by (simp only [h5, if_true]; go_simp; try rfl)) ⟨by (simp only [Act.put, List.setIfInBounds_toArray, List.set_cons_succ, List.set_cons_zero, Manyd.upd, Nat.reduceAdd, Nat.reduceBEq, Bool.or_false, Bool.or_true, if_true]), C1K.set h5 hun hT⟩⟩
        rintro t a' W' hs ⟨rfl, hT⟩
        simp only [hs 0 (by decide), hs 1 (by decide), hs 2 (by decide), hs 3 (by decide), hs 4 (by decide), hs 5 (by decide), hs 6 (by decide), if_true]
        have hV := hT.kv
        have hB := hT.bv
        rw [if_pos (hs 6 (by decide))] at hB
        have hbw10 := hbw9.trans (hV.below hg4 hbw9.size)
        go_wp2
        refine ⟨⟨k + 1, by omega, by go_num, hbw10, ?_, hb⟩, by simp [intOf]; omega⟩
        rw [hS1.out, hy0.out, hy1.out]
        exact hB
    · obtain rfl : k = l.length := by omega
      rw [List.take_length] at b4
      have hDG : Keep ((redN (sumT l) MM == E && redD (sumT l) MM == 1) = D) := ⟨by
        rw [← hD.out]
        unfold awB
        rw [Bool.eq_iff_iff, decide_eq_true_eq]
        simp only [Bool.and_eq_true, beq_iff_eq]
        exact ⟨fun h => ⟨hlz2, hall.out, h.1, h.2⟩, fun h => h.2.2⟩⟩
      generalize redN (sumT l) MM = y0 at b4 hDG
      generalize redD (sumT l) MM = y1 at b4 hDG
      have b5 := b4
      clear hall hcell hzell hD hw hzb e0
      go_wp2
      refine (wpIn_wide (n := 0)).1 ?_
      refine Many.region_many (Cb wr) mixed_ok (by kernel_rfl) (fun _ _ _ _ h => h) (fun s _ => Cb.start wr s) ?_
      refine Many.lex_want (by rfl) (rdb (v := .agg #[.int .i64 y0, .int .i64 y1]) (fun w hb => by (obtain ⟨c0, c1, f0, f1⟩ := (Own2.of b5).after hb; go_simp; try rfl))) ?_
      simp only [Act.put, List.setIfInBounds_toArray, List.set_cons_succ, List.set_cons_zero, Nat.reduceAdd]
      refine Many.lex_want (by rfl) (rdb (fun w hb => by (go_simp; try rfl))) ?_
      simp only [Act.put, List.setIfInBounds_toArray, List.set_cons_succ, List.set_cons_zero, Nat.reduceAdd]
      refine Many.lex_want (by rfl) (clb q29e (fun w hb => by (go_simp; try rfl))) ?_
      simp only [Act.put, List.setIfInBounds_toArray, List.set_cons_succ, List.set_cons_zero, Nat.reduceAdd]
      refine Many.lex_want (by rfl) (rdb (v := .bool (y0 == E && y1 == 1)) (fun w hb => by (have e := eq37 y0 y1 E 1; go_simp; try rfl))) ?_
      simp only [Act.put, List.setIfInBounds_toArray, List.set_cons_succ, List.set_cons_zero, Nat.reduceAdd]
      refine Many.lex_want (by rfl) (rdb (v := .bool (y0 == E && y1 == 1)) (fun w hb => by (skip; go_simp; try rfl))) ?_
      simp only [Act.put, List.setIfInBounds_toArray, List.set_cons_succ, List.set_cons_zero, Nat.reduceAdd]
      refine Many.lex_nil fun s W1 hs hC => ?_
      have hC : Below wr.heap.size wr W1 := hC
      have hbw9 := hbw.trans (hC.mono hbz)
      go_wp2
      go_ret
      exact ⟨by rw [← hDG.out]; rfl, hbw9⟩
end Go.Proofs.Ytbocmbhinjkjlaa
