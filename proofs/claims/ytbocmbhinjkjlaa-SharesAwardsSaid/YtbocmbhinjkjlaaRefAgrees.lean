/- The first two shares that are not those of the contested garment: Agrees of the reference. -/
import Derived.Test.YtbocmbhinjkjlaaAgrees
import Derived.Test.YtbocmbhinjkjlaaRefGar
set_option linter.unusedSimpArgs false
set_option linter.unusedVariables false
namespace Go.Proofs.Ytbocmbhinjkjlaa
open Go Go.Proofs Go.RowKit Go.Seq
theorem agr_ref {c e : Int} {f g : Int × Int} (oi : okA c f = true) (oj : okA e g = true) (zi : 0 ≤ c ∧ c ≤ 1000) (zj : 0 ≤ e ∧ e ≤ 1000) :
    ∃ s0 s1 x0 x1 : Int, (∀ w, Calls Try.prog 52 #[fracV f.1 f.2, fracV g.1 g.2] w fun r w' => r = .returned (fracV s0 s1) ∧ Below w.heap.size w w') ∧
      (∀ w, Calls Try.prog 30 #[fracV s0 s1, .int .i64 c, .int .i64 e] w fun r w' => r = .returned (fracV x0 x1) ∧ Below w.heap.size w w') ∧ agr c e f g = (x0 == f.1 && x1 == f.2) := by
  obtain ⟨n, d⟩ := f
  obtain ⟨m, q⟩ := g
  obtain ⟨d1, d2, n1, n2, _, _⟩ := okA_parts oi
  obtain ⟨q1, q2, m1, m2, gq, _⟩ := okA_parts oj
  simp only at *
  have bU := mul_in (a := d) (b := q) (A := 20) (B := 20) (by omega) d2 (by omega) q2
  have bU1 := mul_pos1 d1 q1
  have bP1 := mul_in (a := n) (b := q) (A := 20000) (B := 20) n1 n2 (by omega) q2
  have bP2 := mul_in (a := m) (b := d) (A := 20000) (B := 20) m1 m2 (by omega) d2
  refine ⟨redN (n * q + m * d) (d * q), redD (n * q + m * d) (d * q), redN (conX (n * q + m * d) (c * (d * q)) (e * (d * q))) (2 * (d * q)), redD (conX (n * q + m * d) (c * (d * q)) (e * (d * q))) (2 * (d * q)), fun w => ?_, fun w => ?_, ?_⟩
  · exact refAdd_any ⟨⟨by omega, by omega⟩, ⟨by omega, by omega⟩, by omega, by omega, bU1, by omega⟩ w
  · exact refGarment_any (n := n * q + m * d) (d := d * q) ⟨by omega, by omega, bU1, by omega⟩ (by omega) (by omega) zi zj w
  · unfold agr
    rw [Bool.eq_iff_iff, decide_eq_true_eq]
    simp only [Bool.and_eq_true, beq_iff_eq]
set_option maxHeartbeats 16000000 in
set_option maxRecDepth 100000 in
theorem refAgrees_any {v u : Value} {zs : List Int} {E x y : Int} {is : Bool} {l : Pts} {w : World} (hc : IntsO w v zs) (hD : decide (Valid zs ∧ 0 ≤ E ∧ E ≤ zs.sum) = true) (hv : FracsO w u l) (hlen : l.length ≤ 1000) (hA : awB zs E l = true)
    (hF : Fst (agP zs l) l.length x y is) :
    Calls Try.prog 33 #[v, u] w fun r w' => r = .returned (.tuple #[.agg #[.int .i64 x, .int .i64 y], .bool is]) ∧ Below w.heap.size w w' := by
  obtain ⟨w1, hw1⟩ : ∃ w1, w.alloc (.cells #[.int .i64 0, .int .i64 0] 22) = w1 := ⟨_, rfl⟩
  have hb1 : Below w.heap.size w w1 := by rw [← hw1]; exact (Below.refl _ _).alloc (Nat.le_refl _) _
  have b6 : BlkAt w1 w.heap.size #[.int .i64 0, .int .i64 0] 22 := by rw [← hw1]; exact BlkAt.new _ _ _
  obtain ⟨hV, hE⟩ := of_decide_eq_true hD
  obtain ⟨hA1, hA2⟩ := awB_parts hA
  obtain ⟨A, cap, rfl, hcell⟩ := hv
  obtain ⟨Z, cz, rfl, hzell⟩ := hc
  have hlz' : (l.length : Int) = (zs.length : Int) := by omega
  have hFb := Keep.mk hF.bad
  have hFg := Keep.mk hF.good
  have hokz : Keep (∀ k, k < l.length → okA (zs.getD k 0) (l.getD k (0, 0)) = true ∧ 0 ≤ zs.getD k 0 ∧ zs.getD k 0 ≤ 1000) := ⟨fun k hk => ⟨hA2 k hk, hV.2.2 _ (getz (by omega))⟩⟩
  have hcK := Keep.mk hcell
  have hzK := Keep.mk hzell
  clear hD hA hV hE hA2 hF hcell hzell
  go_enter Try.func33, Try.ntmps33
  go_wp2
  try rw [hw1]
  go_loopw [6] (fun i wr => ∃ k : Nat, k ≤ zs.length ∧ i = .int .i64 k ∧ Below w1.heap.size w1 wr ∧ Keep (∀ i' j' : Nat, i' < j' → j' < l.length → i' < k → agP zs l i' j' = true)) (fun i _ => zs.length - (intOf i).toNat)
  case atStart => exact ⟨0, by omega, rfl, Below.refl _ _, ⟨fun i' j' _ _ h => by omega⟩⟩
  case round =>
    obtain ⟨k, hk, rfl, hbw, hall⟩ := hrel
    by_cases hlt : k < zs.length
    · have hkk : IntKind.i64.wrap ((k : Int) + 1) = (k : Int) + 1 := IntWalk.i64_in _ (by omega)
      go_wp2
      go_loopw [7] (fun j wq => ∃ m : Nat, k + 1 ≤ m ∧ m ≤ zs.length ∧ j = .int .i64 m ∧ Below w1.heap.size w1 wq ∧ Keep (∀ i' j' : Nat, i' < j' → j' < l.length → (i' < k ∨ (i' = k ∧ j' < m)) → agP zs l i' j' = true)) (fun j _ => zs.length - (intOf j).toNat)
      case atStart => exact ⟨k + 1, by omega, by omega, by go_num, hbw, ⟨fun i' j' h1 h2 h => hall.out i' j' h1 h2 (by omega)⟩⟩
      case round =>
        obtain ⟨m, hm1, hm, rfl, hbq, hal2⟩ := hrel
        have hmm : IntKind.i64.wrap ((m : Int) + 1) = (m : Int) + 1 := IntWalk.i64_in _ (by omega)
        have hqz := hbq.size
        by_cases hlt2 : m < zs.length
        · have hltl : k < l.length := by omega
          have hltm : m < l.length := by omega
          obtain ⟨ga, oa, rfl, hi1, hi2⟩ := hcK.out k hltl
          obtain ⟨ga', oa', ea, hj1, hj2⟩ := hcK.out m hltm
          obtain ⟨rfl, rfl⟩ : ga = ga' ∧ oa = oa' := by simpa using ea
          obtain ⟨gz, oz, rfl, hci⟩ := hzK.out k hlt
          obtain ⟨gz', oz', ez, hcj⟩ := hzK.out m hlt2
          obtain ⟨rfl, rfl⟩ : gz = gz' ∧ oz = oz' := by simpa using ez
          have hb15 := hb1.trans (hbq.mono hb1.size)
          have hi1 := cell_below hi1 hb15
          have hi2 := cell_below hi2 hb15
          have hj1 := cell_below hj1 hb15
          have hj2 := cell_below hj2 hb15
          have hci := cell_below hci hb15
          have hcj := cell_below hcj hb15
          obtain ⟨oi, zi⟩ := hokz.out k hltl
          obtain ⟨oj, zj⟩ := hokz.out m hltm
          obtain ⟨s0, s1, x0, x1, q52, q30, hag⟩ := agr_ref oi oj zi zj
          cases hp : agP zs l k m with
          | true =>
            have hp' := hp
            unfold agP at hp'
            rw [hag] at hp'
            have hpK := Keep.mk hp
            clear ea ez hag hp oi oj zi zj hb15
            generalize l.getD k (0, 0) = f at *
            generalize l.getD m (0, 0) = g at *
            generalize zs.getD k 0 = c at *
            generalize zs.getD m 0 = e at *
            obtain ⟨n, d⟩ := f
            obtain ⟨u, q⟩ := g
            simp only at *
            unfold fracV at q52 q30
            have e1 := eq37 x0 x1 n d
            rw [hp'] at e1
            clear hp'
            go_wp2
            refine (wpIn_wide (n := 0)).1 ?_
            refine Many.region_many (Cb wr) mixed_ok (by kernel_rfl) (fun _ _ _ _ h => h) (fun s _ => Cb.start wr s) ?_
            refine Many.lex_want (by rfl) (rdb (fun w hb => by (go_simp; try rfl))) ?_
            simp only [Act.put, List.setIfInBounds_toArray, List.set_cons_succ, List.set_cons_zero, Nat.reduceAdd]
            refine Many.lex_want (by rfl) (rdb (fun w hb => by (go_simp; try rfl))) ?_
            simp only [Act.put, List.setIfInBounds_toArray, List.set_cons_succ, List.set_cons_zero, Nat.reduceAdd]
            refine Many.lex_want (by rfl) (rdb (v := .pointer (some ⟨ga, oa + k * 2, none⟩)) (fun w hb => by (skip; go_simp; try rfl))) ?_
            simp only [Act.put, List.setIfInBounds_toArray, List.set_cons_succ, List.set_cons_zero, Nat.reduceAdd]
            refine Many.lex_want (by rfl) (rdb (v := .agg #[.int .i64 n, .int .i64 d]) (fun w hb => by (have c0 := cell_below hi1 hb; have c1 := cell_below hi2 hb; go_simp; try rfl))) ?_
            simp only [Act.put, List.setIfInBounds_toArray, List.set_cons_succ, List.set_cons_zero, Nat.reduceAdd]
            refine Many.lex_want (by rfl) (rdb (fun w hb => by (go_simp; try rfl))) ?_
            simp only [Act.put, List.setIfInBounds_toArray, List.set_cons_succ, List.set_cons_zero, Nat.reduceAdd]
            refine Many.lex_want (by rfl) (rdb (fun w hb => by (go_simp; try rfl))) ?_
            simp only [Act.put, List.setIfInBounds_toArray, List.set_cons_succ, List.set_cons_zero, Nat.reduceAdd]
            refine Many.lex_want (by rfl) (rdb (v := .pointer (some ⟨ga, oa + m * 2, none⟩)) (fun w hb => by (skip; go_simp; try rfl))) ?_
            simp only [Act.put, List.setIfInBounds_toArray, List.set_cons_succ, List.set_cons_zero, Nat.reduceAdd]
            refine Many.lex_want (by rfl) (rdb (v := .agg #[.int .i64 u, .int .i64 q]) (fun w hb => by (have c0 := cell_below hj1 hb; have c1 := cell_below hj2 hb; go_simp; try rfl))) ?_
            simp only [Act.put, List.setIfInBounds_toArray, List.set_cons_succ, List.set_cons_zero, Nat.reduceAdd]
            refine Many.lex_want (by rfl) (clb q52 (fun w hb => by (go_simp; try rfl))) ?_
            simp only [Act.put, List.setIfInBounds_toArray, List.set_cons_succ, List.set_cons_zero, Nat.reduceAdd]
            refine Many.lex_want (by rfl) (rdb (fun w hb => by (go_simp; try rfl))) ?_
            simp only [Act.put, List.setIfInBounds_toArray, List.set_cons_succ, List.set_cons_zero, Nat.reduceAdd]
            refine Many.lex_want (by rfl) (rdb (fun w hb => by (go_simp; try rfl))) ?_
            simp only [Act.put, List.setIfInBounds_toArray, List.set_cons_succ, List.set_cons_zero, Nat.reduceAdd]
            refine Many.lex_want (by rfl) (rdb (v := .pointer (some ⟨gz, oz + k, none⟩)) (fun w hb => by (skip; go_simp; try rfl))) ?_
            simp only [Act.put, List.setIfInBounds_toArray, List.set_cons_succ, List.set_cons_zero, Nat.reduceAdd]
            refine Many.lex_want (by rfl) (rdb (v := .int .i64 c) (fun w hb => by (have c0 := cell_below hci hb; go_simp; try rfl))) ?_
            simp only [Act.put, List.setIfInBounds_toArray, List.set_cons_succ, List.set_cons_zero, Nat.reduceAdd]
            refine Many.lex_want (by rfl) (rdb (fun w hb => by (go_simp; try rfl))) ?_
            simp only [Act.put, List.setIfInBounds_toArray, List.set_cons_succ, List.set_cons_zero, Nat.reduceAdd]
            refine Many.lex_want (by rfl) (rdb (fun w hb => by (go_simp; try rfl))) ?_
            simp only [Act.put, List.setIfInBounds_toArray, List.set_cons_succ, List.set_cons_zero, Nat.reduceAdd]
            refine Many.lex_want (by rfl) (rdb (v := .pointer (some ⟨gz, oz + m, none⟩)) (fun w hb => by (skip; go_simp; try rfl))) ?_
            simp only [Act.put, List.setIfInBounds_toArray, List.set_cons_succ, List.set_cons_zero, Nat.reduceAdd]
            refine Many.lex_want (by rfl) (rdb (v := .int .i64 e) (fun w hb => by (have c0 := cell_below hcj hb; go_simp; try rfl))) ?_
            simp only [Act.put, List.setIfInBounds_toArray, List.set_cons_succ, List.set_cons_zero, Nat.reduceAdd]
            refine Many.lex_want (by rfl) (clb q30 (fun w hb => by (go_simp; try rfl))) ?_
            simp only [Act.put, List.setIfInBounds_toArray, List.set_cons_succ, List.set_cons_zero, Nat.reduceAdd]
            refine Many.lex_want (by rfl) (rdb (fun w hb => by (go_simp; try rfl))) ?_
            simp only [Act.put, List.setIfInBounds_toArray, List.set_cons_succ, List.set_cons_zero, Nat.reduceAdd]
            refine Many.lex_want (by rfl) (rdb (fun w hb => by (go_simp; try rfl))) ?_
            simp only [Act.put, List.setIfInBounds_toArray, List.set_cons_succ, List.set_cons_zero, Nat.reduceAdd]
            refine Many.lex_want (by rfl) (rdb (v := .pointer (some ⟨ga, oa + k * 2, none⟩)) (fun w hb => by (skip; go_simp; try rfl))) ?_
            simp only [Act.put, List.setIfInBounds_toArray, List.set_cons_succ, List.set_cons_zero, Nat.reduceAdd]
            refine Many.lex_want (by rfl) (rdb (v := .agg #[.int .i64 n, .int .i64 d]) (fun w hb => by (have c0 := cell_below hi1 hb; have c1 := cell_below hi2 hb; go_simp; try rfl))) ?_
            simp only [Act.put, List.setIfInBounds_toArray, List.set_cons_succ, List.set_cons_zero, Nat.reduceAdd]
            refine Many.lex_want (by rfl) (rdb (v := .bool false) (fun w hb => by (have e := e1; go_simp; try rfl))) ?_
            simp only [Act.put, List.setIfInBounds_toArray, List.set_cons_succ, List.set_cons_zero, Nat.reduceAdd]
            refine Many.lex_nil fun s W1 hs hC => ?_
            have hC : Below wr.heap.size wr W1 := hC
            have hbn := hbq.trans (hC.mono hqz)
            go_wp2
            refine ⟨⟨m + 1, by omega, by omega, by go_num, hbn, ⟨fun i' j' h1 h2 h => ?_⟩⟩, by simp [intOf]; omega⟩
            rcases h with h | ⟨rfl, h⟩
            · exact hal2.out i' j' h1 h2 (.inl h)
            · rcases Nat.lt_or_ge j' m with h' | h'
              · exact hal2.out _ j' h1 h2 (.inr ⟨rfl, h'⟩)
              · obtain rfl : j' = m := by omega
                exact hpK.out
          | false =>
            have hp' := hp
            unfold agP at hp'
            rw [hag] at hp'
            obtain ⟨ex, ey, ei⟩ := hFb.out k m (by omega) hltm hp hal2.out
            have hx := Keep.mk ex
            have hy := Keep.mk ey
            have hz := Keep.mk ei
            clear ex ey ei ea ez hag hp oi oj zi zj hb15
            generalize l.getD k (0, 0) = f at *
            generalize l.getD m (0, 0) = g at *
            generalize zs.getD k 0 = c at *
            generalize zs.getD m 0 = e at *
            obtain ⟨n, d⟩ := f
            obtain ⟨u, q⟩ := g
            simp only at *
            unfold fracV at q52 q30
            have e1 := eq37 x0 x1 n d
            rw [hp'] at e1
            clear hp'
            go_wp2
            refine (wpIn_wide (n := 0)).1 ?_
            refine Many.region_many (Cb wr) mixed_ok (by kernel_rfl) (fun _ _ _ _ h => h) (fun s _ => Cb.start wr s) ?_
            refine Many.lex_want (by rfl) (rdb (fun w hb => by (go_simp; try rfl))) ?_
            simp only [Act.put, List.setIfInBounds_toArray, List.set_cons_succ, List.set_cons_zero, Nat.reduceAdd]
            refine Many.lex_want (by rfl) (rdb (fun w hb => by (go_simp; try rfl))) ?_
            simp only [Act.put, List.setIfInBounds_toArray, List.set_cons_succ, List.set_cons_zero, Nat.reduceAdd]
            refine Many.lex_want (by rfl) (rdb (v := .pointer (some ⟨ga, oa + k * 2, none⟩)) (fun w hb => by (skip; go_simp; try rfl))) ?_
            simp only [Act.put, List.setIfInBounds_toArray, List.set_cons_succ, List.set_cons_zero, Nat.reduceAdd]
            refine Many.lex_want (by rfl) (rdb (v := .agg #[.int .i64 n, .int .i64 d]) (fun w hb => by (have c0 := cell_below hi1 hb; have c1 := cell_below hi2 hb; go_simp; try rfl))) ?_
            simp only [Act.put, List.setIfInBounds_toArray, List.set_cons_succ, List.set_cons_zero, Nat.reduceAdd]
            refine Many.lex_want (by rfl) (rdb (fun w hb => by (go_simp; try rfl))) ?_
            simp only [Act.put, List.setIfInBounds_toArray, List.set_cons_succ, List.set_cons_zero, Nat.reduceAdd]
            refine Many.lex_want (by rfl) (rdb (fun w hb => by (go_simp; try rfl))) ?_
            simp only [Act.put, List.setIfInBounds_toArray, List.set_cons_succ, List.set_cons_zero, Nat.reduceAdd]
            refine Many.lex_want (by rfl) (rdb (v := .pointer (some ⟨ga, oa + m * 2, none⟩)) (fun w hb => by (skip; go_simp; try rfl))) ?_
            simp only [Act.put, List.setIfInBounds_toArray, List.set_cons_succ, List.set_cons_zero, Nat.reduceAdd]
            refine Many.lex_want (by rfl) (rdb (v := .agg #[.int .i64 u, .int .i64 q]) (fun w hb => by (have c0 := cell_below hj1 hb; have c1 := cell_below hj2 hb; go_simp; try rfl))) ?_
            simp only [Act.put, List.setIfInBounds_toArray, List.set_cons_succ, List.set_cons_zero, Nat.reduceAdd]
            refine Many.lex_want (by rfl) (clb q52 (fun w hb => by (go_simp; try rfl))) ?_
            simp only [Act.put, List.setIfInBounds_toArray, List.set_cons_succ, List.set_cons_zero, Nat.reduceAdd]
            refine Many.lex_want (by rfl) (rdb (fun w hb => by (go_simp; try rfl))) ?_
            simp only [Act.put, List.setIfInBounds_toArray, List.set_cons_succ, List.set_cons_zero, Nat.reduceAdd]
            refine Many.lex_want (by rfl) (rdb (fun w hb => by (go_simp; try rfl))) ?_
            simp only [Act.put, List.setIfInBounds_toArray, List.set_cons_succ, List.set_cons_zero, Nat.reduceAdd]
            refine Many.lex_want (by rfl) (rdb (v := .pointer (some ⟨gz, oz + k, none⟩)) (fun w hb => by (skip; go_simp; try rfl))) ?_
            simp only [Act.put, List.setIfInBounds_toArray, List.set_cons_succ, List.set_cons_zero, Nat.reduceAdd]
            refine Many.lex_want (by rfl) (rdb (v := .int .i64 c) (fun w hb => by (have c0 := cell_below hci hb; go_simp; try rfl))) ?_
            simp only [Act.put, List.setIfInBounds_toArray, List.set_cons_succ, List.set_cons_zero, Nat.reduceAdd]
            refine Many.lex_want (by rfl) (rdb (fun w hb => by (go_simp; try rfl))) ?_
            simp only [Act.put, List.setIfInBounds_toArray, List.set_cons_succ, List.set_cons_zero, Nat.reduceAdd]
            refine Many.lex_want (by rfl) (rdb (fun w hb => by (go_simp; try rfl))) ?_
            simp only [Act.put, List.setIfInBounds_toArray, List.set_cons_succ, List.set_cons_zero, Nat.reduceAdd]
            refine Many.lex_want (by rfl) (rdb (v := .pointer (some ⟨gz, oz + m, none⟩)) (fun w hb => by (skip; go_simp; try rfl))) ?_
            simp only [Act.put, List.setIfInBounds_toArray, List.set_cons_succ, List.set_cons_zero, Nat.reduceAdd]
            refine Many.lex_want (by rfl) (rdb (v := .int .i64 e) (fun w hb => by (have c0 := cell_below hcj hb; go_simp; try rfl))) ?_
            simp only [Act.put, List.setIfInBounds_toArray, List.set_cons_succ, List.set_cons_zero, Nat.reduceAdd]
            refine Many.lex_want (by rfl) (clb q30 (fun w hb => by (go_simp; try rfl))) ?_
            simp only [Act.put, List.setIfInBounds_toArray, List.set_cons_succ, List.set_cons_zero, Nat.reduceAdd]
            refine Many.lex_want (by rfl) (rdb (fun w hb => by (go_simp; try rfl))) ?_
            simp only [Act.put, List.setIfInBounds_toArray, List.set_cons_succ, List.set_cons_zero, Nat.reduceAdd]
            refine Many.lex_want (by rfl) (rdb (fun w hb => by (go_simp; try rfl))) ?_
            simp only [Act.put, List.setIfInBounds_toArray, List.set_cons_succ, List.set_cons_zero, Nat.reduceAdd]
            refine Many.lex_want (by rfl) (rdb (v := .pointer (some ⟨ga, oa + k * 2, none⟩)) (fun w hb => by (skip; go_simp; try rfl))) ?_
            simp only [Act.put, List.setIfInBounds_toArray, List.set_cons_succ, List.set_cons_zero, Nat.reduceAdd]
            refine Many.lex_want (by rfl) (rdb (v := .agg #[.int .i64 n, .int .i64 d]) (fun w hb => by (have c0 := cell_below hi1 hb; have c1 := cell_below hi2 hb; go_simp; try rfl))) ?_
            simp only [Act.put, List.setIfInBounds_toArray, List.set_cons_succ, List.set_cons_zero, Nat.reduceAdd]
            refine Many.lex_want (by rfl) (rdb (v := .bool true) (fun w hb => by (have e := e1; go_simp; try rfl))) ?_
            simp only [Act.put, List.setIfInBounds_toArray, List.set_cons_succ, List.set_cons_zero, Nat.reduceAdd]
            refine Many.lex_nil fun s W1 hs hC => ?_
            have hC : Below wr.heap.size wr W1 := hC
            have hbn := hbq.trans (hC.mono hqz)
            obtain ⟨c0, c1, f0, f1⟩ := Own2.of (b6.after hbn)
            have hbw5 := hb1.trans (hbn.mono hb1.size)
            clear hbn hC hs
            go_wp2
            refine bodyPost_ret (v := .tuple #[.agg #[.int .i64 k, .int .i64 m], .bool false]) (by simp [results, Try.results33, go_sem]; go_simp) rfl ?_
            exact ⟨by rw [hx.out, hy.out, hz.out], (hbw5.setCell (p := ⟨w.heap.size, 0, none⟩) (Nat.le_refl _) _).setCell (p := ⟨w.heap.size, 1, none⟩) (Nat.le_refl _) _⟩
        · obtain rfl : m = zs.length := by omega
          go_wp2
          refine ⟨⟨k + 1, by omega, by go_num, hbq, ⟨fun i' j' h1 h2 h => ?_⟩⟩, by simp [intOf]; omega⟩
          rcases Nat.lt_or_ge i' k with h' | h'
          · exact hal2.out i' j' h1 h2 (.inl h')
          · exact hal2.out i' j' h1 h2 (.inr ⟨by omega, by omega⟩)
    · obtain rfl : k = zs.length := by omega
      obtain ⟨ex, ey, ei⟩ := hFg.out fun i j h1 h2 => hall.out i j h1 h2 (by omega)
      have hx := Keep.mk ex
      have hy := Keep.mk ey
      have hz := Keep.mk ei
      clear ex ey ei
      obtain ⟨c0, c1, f0, f1⟩ := Own2.of (b6.after hbw)
      have hbw5 := hb1.trans (hbw.mono hb1.size)
      go_wp2
      refine bodyPost_ret (v := .tuple #[.agg #[.int .i64 0, .int .i64 0], .bool true]) (by simp [results, Try.results33, go_sem]; go_simp) rfl ?_
      exact ⟨by rw [hx.out, hy.out, hz.out], (hbw5.setCell (p := ⟨w.heap.size, 0, none⟩) (Nat.le_refl _) _).setCell (p := ⟨w.heap.size, 1, none⟩) (Nat.le_refl _) _⟩
end Go.Proofs.Ytbocmbhinjkjlaa
