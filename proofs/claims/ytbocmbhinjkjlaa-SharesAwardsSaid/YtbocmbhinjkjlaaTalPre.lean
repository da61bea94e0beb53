/- For the law SharesTalmud: a row that is stored into, the Talmud award is an award that agrees, Equal and Right of the program. -/
import Derived.Test.YtbocmbhinjkjlaaFvReg
import Derived.Test.YtbocmbhinjkjlaaDivides
set_option linter.unusedSimpArgs false
set_option linter.unusedVariables false
namespace Go.Proofs.Ytbocmbhinjkjlaa
open Go Go.Proofs Go.RowKit Go.Seq Go.Sort
/-- A row of fractions of one's own, with room behind it. -/
def RowX (W : World) (G : Nat) (l : Pts) : Prop := ∃ arr : Array Value, BlkAt W G arr 37 ∧ l.length * 2 ≤ arr.size ∧ ∀ i, i < l.length → arr[i * 2]? = some (.int .i64 (l.getD i (0, 0)).1) ∧ arr[i * 2 + 1]? = some (.int .i64 (l.getD i (0, 0)).2)
theorem RowX.of {W : World} {B : Nat} {v : Value} {l : Pts} (h : W.ownsRow B 37 2 v l.length (enc2 l)) (hl : 0 < l.length) : ∃ G cap, v = .slice (some ⟨G, 0, none⟩) l.length cap ∧ B ≤ G ∧ RowX W G l := by
  obtain ⟨h1, h2⟩ := h
  rcases h2 with ⟨_, h0⟩ | ⟨g, cap, cur, hv, hg, hb, hc, _, hs, ht⟩
  · omega
  · refine ⟨g, cap, hv, hg, cur, hb, by omega, fun i hi => ?_⟩
    obtain ⟨e1, e2⟩ := enc2_at l hi
    have gt : ∀ k, k < l.length * 2 → cur[k]? = (enc2 l)[k]? := fun k hk => by
      rw [← ht, List.getElem?_take_of_lt hk]; simp
    rw [gt _ (by omega), gt _ (by omega)]
    exact ⟨e1, e2⟩
theorem RowX.after {W W' : World} {G : Nat} {l : Pts} (h : RowX W G l) (hb : Below W.heap.size W W') : RowX W' G l := by
  obtain ⟨arr, h1, h2, h3⟩ := h
  exact ⟨arr, h1.after hb, h2, h3⟩
theorem RowX.cell {W : World} {G i : Nat} {l : Pts} (h : RowX W G l) (hi : i < l.length) : W.cell? ⟨G, i * 2, none⟩ = some (.int .i64 (l.getD i (0, 0)).1) ∧ W.cell? ⟨G, i * 2 + 1, none⟩ = some (.int .i64 (l.getD i (0, 0)).2) := by
  obtain ⟨arr, h1, h2, h3⟩ := h
  rw [h1.cell, h1.cell]
  exact h3 i hi
theorem RowX.can {W : World} {G i : Nat} {l : Pts} (h : RowX W G l) (hi : i < l.length * 2) : (∃ u, W.cell? ⟨G, i, none⟩ = some u) ∧ W.frozen? ⟨G, i, none⟩ = false := by
  obtain ⟨arr, h1, h2, h3⟩ := h
  exact ⟨⟨arr[i]'(by omega), by rw [h1.cell]; simp [show i < arr.size by omega]⟩, h1.free i⟩
theorem getD_set {l : Pts} {i k : Nat} {z : Int × Int} (hi : i < l.length) : (l.set i z).getD k (0, 0) = if k = i then z else l.getD k (0, 0) := by
  simp only [List.getD_eq_getElem?_getD, List.getElem?_set]
  by_cases h : i = k
  · subst h; simp [hi]
  · simp [h, show ¬ k = i from fun e => h e.symm]
theorem RowX.set {W : World} {G i : Nat} {l : Pts} (h : RowX W G l) (hi : i < l.length) (x y : Int) : RowX ((W.setCell ⟨G, i * 2, none⟩ (.int .i64 x)).setCell ⟨G, i * 2 + 1, none⟩ (.int .i64 y)) G (l.set i (x, y)) := by
  obtain ⟨arr, h1, h2, h3⟩ := h
  refine ⟨_, (h1.set (i * 2) _).set (i * 2 + 1) _, by simpa using h2, fun k hk => ?_⟩
  rw [List.length_set] at hk
  rw [getD_set hi]
  by_cases e : k = i
  · subst e
    rw [if_pos rfl]
    constructor
    · rw [Array.getElem?_setIfInBounds_ne (by omega), Array.getElem?_setIfInBounds_self_of_lt (by omega)]
    · rw [Array.getElem?_setIfInBounds_self_of_lt (by simp; omega)]
  · rw [if_neg e]
    have := h3 k hk
    constructor
    · rw [Array.getElem?_setIfInBounds_ne (by omega), Array.getElem?_setIfInBounds_ne (by omega)]; exact this.1
    · rw [Array.getElem?_setIfInBounds_ne (by omega), Array.getElem?_setIfInBounds_ne (by omega)]; exact this.2
theorem RowX.fracs {W : World} {G cap n : Nat} {l : Pts} (h : RowX W G l) (hn : l.length = n) : FracsO W (.slice (some ⟨G, 0, none⟩) n cap) l := by
  subst hn
  refine ⟨_, cap, rfl, fun k hk => ⟨G, 0, rfl, ?_, ?_⟩⟩
  · rw [Nat.zero_add]; exact (h.cell hk).1
  · rw [Nat.zero_add]; exact (h.cell hk).2
theorem tal_D (S N : Int) : awD 3 S N = 2 * N := rfl
theorem tal_okA {l : List Int} {F N L c : Int} (hV : Valid l) (hE : 0 ≤ F ∧ F ≤ l.sum) (h : LevR 3 l F N L) (hc : c ∈ l) : okA c (redN (awX 3 l.sum F N L c) (awD 3 l.sum N), redD (awX 3 l.sum F N L c) (awD 3 l.sum N)) = true := by
  have hx := awX_in (r := 3) (E := F) (N := N) (L := L) (c := c) (by omega) hE h.n1 h.l0 (hV.2.2 c hc).1
  have hD : awD 3 l.sum N = 2 * N := rfl
  have hN := h.n1
  have hN10 := h.n10
  have hm := mul_in (a := c) (b := awD 3 l.sum N) (A := 1000) (B := 20) (hV.2.2 c hc).1 (hV.2.2 c hc).2 (by omega) (by omega)
  generalize awX 3 l.sum F N L c = X at *
  generalize awD 3 l.sum N = D at *
  obtain ⟨g, g1, p1, p2, p3, p4⟩ := red_parts X (b := D) (by omega)
  obtain ⟨k1, k2, k3⟩ := red_le X (b := D) (by omega)
  have h0 : 0 ≤ redN X D := by
    rcases Int.lt_or_le (redN X D) 0 with h | h
    · have := Int.mul_neg_of_neg_of_pos h (show 0 < g by omega)
      omega
    · exact h
  have hle : redN X D ≤ c * redD X D := by
    rcases Int.lt_or_le (c * redD X D) (redN X D) with h | h
    · have := Int.mul_lt_mul_of_pos_right h (show 0 < g by omega)
      rw [p1, show c * redD X D * g = c * (redD X D * g) by ac_rfl, p2] at this
      omega
    · exact h
  unfold okA withinB
  rw [Bool.and_eq_true]
  exact ⟨decide_eq_true ⟨p3, by omega, h0, by omega, p4⟩, decide_eq_true hle⟩
theorem tal_term {X D : Int} (h1 : 1 ≤ D) (h2 : D ≤ 20) : redN X D * (MM / redD X D) = X * (MM / D) := by
  obtain ⟨g, g1, p1, p2, p3, p4⟩ := red_parts X h1
  obtain ⟨k1, k2, k3⟩ := red_le X h1
  have e1 := mm_dvd h1 h2
  have e2 := mm_dvd (d := redD X D) p3 (by omega)
  generalize redN X D = x at *
  generalize redD X D = y at *
  have e3 : MM / y = g * (MM / D) := by
    refine Int.eq_of_mul_eq_mul_left (show y ≠ 0 by omega) ?_
    rw [e2, ← Int.mul_assoc, p2, e1]
  rw [e3, ← Int.mul_assoc, p1]
theorem sumT_map {f : Nat → Int × Int} {g : Int → Int} {K : Int} : ∀ {l : List Int} {a : Nat}, (∀ i, i < l.length → (f (a + i)).1 * (MM / (f (a + i)).2) = g (l.getD i 0) * K) → sumT ((List.range' a l.length).map f) = (l.map g).sum * K
  | [], a, _ => by simp [sumT]
  | x :: l, a, h => by
    have h0 := h 0 (by simp)
    simp only [Nat.add_zero, List.getD_cons_zero] at h0
    rw [List.length_cons, List.range'_succ, List.map_cons, sumT_cons, List.map_cons, List.sum_cons, Int.add_mul, h0, sumT_map (l := l) (a := a + 1) (f := f) (g := g) (K := K)]
    intro i hi
    have := h (i + 1) (by simpa using hi)
    rw [show a + (i + 1) = a + 1 + i by omega] at this
    simpa using this
theorem tal_award {l : List Int} {F N L : Int} (hV : Valid l) (hE : 0 ≤ F ∧ F ≤ l.sum) (h : LevR 3 l F N L) : awB l F (awL 3 l F N L) = true := by
  have hN := h.n1
  have hN10 := h.n10
  have hD : awD 3 l.sum N = 2 * N := rfl
  have hs : sumT (awL 3 l F N L) = F * MM := by
    unfold awL
    rw [List.range_eq_range', sumT_map (l := l) (a := 0) (g := fun c => awX 3 l.sum F N L c) (K := MM / awD 3 l.sum N) (fun i hi => by
      rw [Nat.zero_add]
      exact tal_term (by omega) (by omega))]
    rw [aw_sum h hE (by omega), Int.mul_assoc, mm_dvd (by omega) (by omega)]
  refine decide_eq_true ⟨awL_len .., fun i hi => ?_, ?_⟩
  · rw [awL_len] at hi
    rw [awL_get hi]
    exact tal_okA hV hE h (getz hi)
  · have := red_same (a := sumT (awL 3 l F N L)) (b := MM) (c := F) (d := 1) (by decide) (by omega) (by rw [hs]; omega)
    rw [(red_one F).1, (red_one F).2] at this
    exact this
theorem tal_agree {l : List Int} {F N L : Int} (hV : Valid l) (hE : 0 ≤ F ∧ F ≤ l.sum) (h : LevR 3 l F N L) : ∀ i j : Nat, i < j → j < (awL 3 l F N L).length → agP l (awL 3 l F N L) i j = true := fun i j hij hj => by
  rw [awL_len] at hj
  unfold agP
  rw [awL_get hj, awL_get (show i < l.length by omega)]
  exact (agr_iff (awD_one h.n1)).2 (aw_pair h.n1 h.l0 (hV.2.2 _ (getz (by omega))).1 (hV.2.2 _ (getz hj)).1)
theorem tal_same {l : List Int} {F N L M K : Int} (h : LevR 3 l F N L) (k : LevR 3 l F M K) : ∀ c ∈ l, awX 3 l.sum F N L c * awD 3 l.sum M = awX 3 l.sum F M K c * awD 3 l.sum N := fun c hc => by
  have hs := (h.lev (by omega)).same (k.lev (by omega)) c hc
  generalize l.sum = S at *
  show (if 2 * F ≤ S then mnI (c * N) L else c * (2 * N) - mnI (c * N) L) * (2 * M) = (if 2 * F ≤ S then mnI (c * M) K else c * (2 * M) - mnI (c * M) K) * (2 * N)
  have g1 : mnI (c * N) L * (2 * M) = 2 * (mnI (c * N) L * M) := by ac_rfl
  have g2 : mnI (c * M) K * (2 * N) = 2 * (mnI (c * M) K * N) := by ac_rfl
  split
  · rw [g1, g2, hs]
  · rw [Int.sub_mul, Int.sub_mul, g1, g2, hs, show c * (2 * N) * (2 * M) = c * (2 * M) * (2 * N) by ac_rfl]
theorem Fst.yes {p : Nat → Nat → Bool} {n : Nat} (h : ∀ i j : Nat, i < j → j < n → p i j = true) : Fst p n 0 0 true :=
  ⟨(fun i j h1 h2 h3 _ => by rw [h i j h1 h2] at h3; cases h3), fun _ => ⟨rfl, rfl, rfl⟩⟩
theorem Fst.no {p : Nat → Nat → Bool} {n : Nat} (h : ∃ i j : Nat, i < j ∧ j < n ∧ p i j = false) : ∃ x y : Nat, x < y ∧ y < n ∧ Fst p n x y false := by
  obtain ⟨x, y, is, hF⟩ := Fst.exists p n
  obtain ⟨i, hi, hi2⟩ := least h
  obtain ⟨j, ⟨j1, j2, j3⟩, hj2⟩ := least hi
  obtain ⟨rfl, rfl, rfl⟩ := hF.bad i j j1 j2 j3 (fun i' j' h1 h2 h3 => by
    cases e : p i' j' with
    | true => rfl
    | false =>
      rcases h3 with hl | ⟨rfl, hl⟩
      · exact absurd ⟨j', h1, h2, e⟩ (hi2 i' hl)
      · exact absurd ⟨h1, h2, e⟩ (hj2 j' hl))
  exact ⟨i, j, j1, j2, hF⟩
set_option maxHeartbeats 2000000 in
set_option maxRecDepth 100000 in
theorem equal_no {a b : Value} {l m : Pts} {w : World} (ha : FracsO w a l) (hb : FracsO w b m) (hl : l.length ≤ 1000) (hlm : l.length = m.length) {i : Nat} (hi : i < l.length) (hne : l.getD i (0, 0) ≠ m.getD i (0, 0)) :
    Calls Try.prog 64 #[a, b] w fun e w' => e = .returned (.bool false) ∧ Below w.heap.size w w' := by
  obtain ⟨A, ca, rfl, hca⟩ := ha
  obtain ⟨C, cc, rfl, hcc⟩ := hb
  rw [← hlm]
  have haK := Keep.mk hca
  have hcK := Keep.mk hcc
  have hlmK := Keep.mk hlm
  have hneK := Keep.mk hne
  clear hca hcc hlm hne
  obtain ⟨n, hn⟩ : ∃ n, Keep (l.length = n) := ⟨_, ⟨rfl⟩⟩
  rw [hn.out] at hl hi ⊢
  go_enter Try.func64, Try.ntmps64
  go_wp2
  go_loopw [13] (fun k wr => ∃ j : Nat, j ≤ i ∧ k = .int .i64 j ∧ Below w.heap.size w wr) (fun k _ => n - (intOf k).toNat)
  case atStart => exact ⟨0, by omega, rfl, Below.refl _ _⟩
  case round =>
    obtain ⟨j, hj, rfl, hbw⟩ := hrel
    have hjn : j < n := by omega
    have hjn' : (j : Int) < (n : Int) := by omega
    obtain ⟨ga, oa, rfl, ha1, ha2⟩ := haK.out j (by have := hn.out; omega)
    obtain ⟨gc, oc, rfl, hc1, hc2⟩ := hcK.out j (by have := hn.out; have := hlmK.out; omega)
    have ha1 := cell_below ha1 hbw
    have ha2 := cell_below ha2 hbw
    have hc1 := cell_below hc1 hbw
    have hc2 := cell_below hc2 hbw
    cases hq : (((l.getD j (0, 0)).1 == (m.getD j (0, 0)).1) && ((l.getD j (0, 0)).2 == (m.getD j (0, 0)).2))
    case false =>
        generalize l.getD j (0, 0) = z at *
        generalize m.getD j (0, 0) = y at *
        obtain ⟨z0, z1⟩ := z
        obtain ⟨y0, y1⟩ := y
        simp only at ha1 ha2 hc1 hc2 hq
        have e := fun w => eq37 z0 z1 y0 y1 w
        rw [hq] at e
        go_wp2
        refine (wpIn_wide (n := 0)).1 ?_
        refine Many.region_many (Go.Proofs.Ytbocmbhinjkjlaa.Cb wr) mixed_ok (by kernel_rfl) (fun _ _ _ _ h => h) (fun s _ => Go.Proofs.Ytbocmbhinjkjlaa.Cb.start wr s) ?_
        refine Many.lex_want (by rfl) (rdb (fun w hb => by (go_simp; try rfl))) ?_
        simp only [Act.put, List.setIfInBounds_toArray, List.set_cons_succ, List.set_cons_zero, Nat.reduceAdd]
        refine Many.lex_want (by rfl) (rdb (fun w hb => by (go_simp; try rfl))) ?_
        simp only [Act.put, List.setIfInBounds_toArray, List.set_cons_succ, List.set_cons_zero, Nat.reduceAdd]
        refine Many.lex_want (by rfl) (rdb (v := .pointer (some ⟨ga, oa + j * 2, none⟩)) (fun w hb => by (skip; go_simp; try rfl))) ?_
        simp only [Act.put, List.setIfInBounds_toArray, List.set_cons_succ, List.set_cons_zero, Nat.reduceAdd]
        refine Many.lex_want (by rfl) (rdb (v := .agg #[.int .i64 z0, .int .i64 z1]) (fun w hb => by (have c0 := cell_below ha1 hb; have c1 := cell_below ha2 hb; go_simp; try rfl))) ?_
        simp only [Act.put, List.setIfInBounds_toArray, List.set_cons_succ, List.set_cons_zero, Nat.reduceAdd]
        refine Many.lex_want (by rfl) (rdb (fun w hb => by (go_simp; try rfl))) ?_
        simp only [Act.put, List.setIfInBounds_toArray, List.set_cons_succ, List.set_cons_zero, Nat.reduceAdd]
        refine Many.lex_want (by rfl) (rdb (fun w hb => by (go_simp; try rfl))) ?_
        simp only [Act.put, List.setIfInBounds_toArray, List.set_cons_succ, List.set_cons_zero, Nat.reduceAdd]
        refine Many.lex_want (by rfl) (rdb (v := .pointer (some ⟨gc, oc + j * 2, none⟩)) (fun w hb => by (skip; go_simp; try rfl))) ?_
        simp only [Act.put, List.setIfInBounds_toArray, List.set_cons_succ, List.set_cons_zero, Nat.reduceAdd]
        refine Many.lex_want (by rfl) (rdb (v := .agg #[.int .i64 y0, .int .i64 y1]) (fun w hb => by (have c0 := cell_below hc1 hb; have c1 := cell_below hc2 hb; go_simp; try rfl))) ?_
        simp only [Act.put, List.setIfInBounds_toArray, List.set_cons_succ, List.set_cons_zero, Nat.reduceAdd]
        refine Many.lex_want (by rfl) (rdb (v := .bool true) (fun w hb => by (have e := e; go_simp; try rfl))) ?_
        simp only [Act.put, List.setIfInBounds_toArray, List.set_cons_succ, List.set_cons_zero, Nat.reduceAdd]
        refine Many.lex_nil fun s W1 hs hC => ?_
        have hC : Below wr.heap.size wr W1 := hC
        have hbw2 := hbw.trans (hC.mono hbw.size)
        clear hC hs
        go_wp2
        go_ret
        exact ⟨rfl, hbw2⟩
    case true =>
        have hji : j < i := by
          rcases Nat.lt_or_ge j i with h | h
          · exact h
          · exfalso
            have e : j = i := by omega
            subst e
            rw [Bool.and_eq_true, beq_iff_eq, beq_iff_eq] at hq
            exact hneK.out (Prod.ext hq.1 hq.2)
        generalize l.getD j (0, 0) = z at *
        generalize m.getD j (0, 0) = y at *
        obtain ⟨z0, z1⟩ := z
        obtain ⟨y0, y1⟩ := y
        simp only at ha1 ha2 hc1 hc2 hq
        have e := fun w => eq37 z0 z1 y0 y1 w
        rw [hq] at e
        go_wp2
        refine (wpIn_wide (n := 0)).1 ?_
        refine Many.region_many (Go.Proofs.Ytbocmbhinjkjlaa.Cb wr) mixed_ok (by kernel_rfl) (fun _ _ _ _ h => h) (fun s _ => Go.Proofs.Ytbocmbhinjkjlaa.Cb.start wr s) ?_
        refine Many.lex_want (by rfl) (rdb (fun w hb => by (go_simp; try rfl))) ?_
        simp only [Act.put, List.setIfInBounds_toArray, List.set_cons_succ, List.set_cons_zero, Nat.reduceAdd]
        refine Many.lex_want (by rfl) (rdb (fun w hb => by (go_simp; try rfl))) ?_
        simp only [Act.put, List.setIfInBounds_toArray, List.set_cons_succ, List.set_cons_zero, Nat.reduceAdd]
        refine Many.lex_want (by rfl) (rdb (v := .pointer (some ⟨ga, oa + j * 2, none⟩)) (fun w hb => by (skip; go_simp; try rfl))) ?_
        simp only [Act.put, List.setIfInBounds_toArray, List.set_cons_succ, List.set_cons_zero, Nat.reduceAdd]
        refine Many.lex_want (by rfl) (rdb (v := .agg #[.int .i64 z0, .int .i64 z1]) (fun w hb => by (have c0 := cell_below ha1 hb; have c1 := cell_below ha2 hb; go_simp; try rfl))) ?_
        simp only [Act.put, List.setIfInBounds_toArray, List.set_cons_succ, List.set_cons_zero, Nat.reduceAdd]
        refine Many.lex_want (by rfl) (rdb (fun w hb => by (go_simp; try rfl))) ?_
        simp only [Act.put, List.setIfInBounds_toArray, List.set_cons_succ, List.set_cons_zero, Nat.reduceAdd]
        refine Many.lex_want (by rfl) (rdb (fun w hb => by (go_simp; try rfl))) ?_
        simp only [Act.put, List.setIfInBounds_toArray, List.set_cons_succ, List.set_cons_zero, Nat.reduceAdd]
        refine Many.lex_want (by rfl) (rdb (v := .pointer (some ⟨gc, oc + j * 2, none⟩)) (fun w hb => by (skip; go_simp; try rfl))) ?_
        simp only [Act.put, List.setIfInBounds_toArray, List.set_cons_succ, List.set_cons_zero, Nat.reduceAdd]
        refine Many.lex_want (by rfl) (rdb (v := .agg #[.int .i64 y0, .int .i64 y1]) (fun w hb => by (have c0 := cell_below hc1 hb; have c1 := cell_below hc2 hb; go_simp; try rfl))) ?_
        simp only [Act.put, List.setIfInBounds_toArray, List.set_cons_succ, List.set_cons_zero, Nat.reduceAdd]
        refine Many.lex_want (by rfl) (rdb (v := .bool false) (fun w hb => by (have e := e; go_simp; try rfl))) ?_
        simp only [Act.put, List.setIfInBounds_toArray, List.set_cons_succ, List.set_cons_zero, Nat.reduceAdd]
        refine Many.lex_nil fun s W1 hs hC => ?_
        have hC : Below wr.heap.size wr W1 := hC
        have hbw2 := hbw.trans (hC.mono hbw.size)
        clear hC hs
        go_wp2
        exact ⟨⟨j + 1, by omega, by go_num, hbw2⟩, by simp [intOf]; omega⟩
set_option maxHeartbeats 2000000 in
theorem right_no {v u : Value} {l : List Int} {F : Int} {m : Pts} {w : World} (hc : IntsO w v l) (hV : Valid l) (hE : 0 ≤ F ∧ F ≤ l.sum) (hu : FracsO w u m) (hlm : l.length = m.length) (hne : ∀ N L, LevR 3 l F N L → ∃ i, i < l.length ∧ (awL 3 l F N L).getD i (0, 0) ≠ m.getD i (0, 0)) :
    Calls Try.prog 23 #[.int .i64 3, v, .int .i64 F, u] w fun e w' => e = .returned (.int .i64 10) ∧ Below w.heap.size w w' := by
  have qA := show Calls Try.prog 22 #[.int .i64 3, v, .int .i64 F] w _ from awardM (r := 3) (w := w) (by omega) hc hV hE
  have huK := Keep.mk hu
  have hneK := Keep.mk hne
  have hl10 := hV.2.1
  obtain ⟨C, cu, rfl, -⟩ := hu
  have hlmK := Keep.mk hlm
  clear hne hlm
  go_enter Try.func23, Try.ntmps23
  go_wp2_with (first
    | (go_at_call 22; (with_reducible refine qA.mono ?_); rintro e w1 ⟨G, N, L, rfl, m1, hG, hb1⟩
       obtain ⟨i, hi, hd⟩ := hneK.out N L m1.lev
       have q64 := equal_no (b := .slice C m.length cu) m1.row (fracsO_below huK.out hb1) (by rw [awL_len]; omega) (by rw [awL_len]; exact hlmK.out) (i := i) (by rw [awL_len]; exact hi) hd
       clear qA m1)
    | (go_at_call 64; (with_reducible refine q64.mono ?_); rintro e w2 ⟨rfl, hb2⟩))
  go_ret
  exact ⟨rfl, hb1.trans (hb2.mono hb1.size)⟩
end Go.Proofs.Ytbocmbhinjkjlaa
