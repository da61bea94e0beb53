/- The first two shares that are not those of the contested garment: Agrees of the program. -/
import Derived.Test.YtbocmbhinjkjlaaAgree
set_option linter.unusedSimpArgs false
set_option linter.unusedVariables false
namespace Go.Proofs.Ytbocmbhinjkjlaa
open Go Go.Proofs Go.RowKit Go.Seq
/-- The first two positions of which p says no, and whether there are none. -/
structure Fst (p : Nat → Nat → Bool) (n : Nat) (x y : Int) (is : Bool) : Prop where
  bad : ∀ i j : Nat, i < j → j < n → p i j = false → (∀ i' j' : Nat, i' < j' → j' < n → (i' < i ∨ (i' = i ∧ j' < j)) → p i' j' = true) → x = i ∧ y = j ∧ is = false
  good : (∀ i j : Nat, i < j → j < n → p i j = true) → x = 0 ∧ y = 0 ∧ is = true
theorem least {q : Nat → Prop} (h : ∃ n, q n) : ∃ n, q n ∧ ∀ m, m < n → ¬ q m := by
  obtain ⟨n, hn⟩ := h
  induction n using Nat.strongRecOn with
  | ind n ih =>
    by_cases h : ∃ m, m < n ∧ q m
    · obtain ⟨m, hm, hq⟩ := h
      exact ih m hm hq
    · exact ⟨n, hn, fun m hm hq => h ⟨m, hm, hq⟩⟩
theorem Fst.exists (p : Nat → Nat → Bool) (n : Nat) : ∃ x y is, Fst p n x y is := by
  by_cases h : ∀ i j : Nat, i < j → j < n → p i j = true
  · exact ⟨0, 0, true, (fun i j h1 h2 h3 _ => by rw [h i j h1 h2] at h3; cases h3), fun _ => ⟨rfl, rfl, rfl⟩⟩
  · have h1 : ∃ i, ∃ j, i < j ∧ j < n ∧ p i j = false := by
      refine Classical.byContradiction fun hn => h fun i j h1 h2 => ?_
      cases e : p i j with
      | true => rfl
      | false => exact absurd ⟨i, j, h1, h2, e⟩ hn
    obtain ⟨i, hi, hi2⟩ := least h1
    obtain ⟨j, ⟨j1, j2, j3⟩, hj2⟩ := least hi
    refine ⟨i, j, false, fun i2 j2' h1 h2 h3 h4 => ?_, fun hh => absurd hh h⟩
    have e1 : ¬ i < i2 := fun hl => by rw [h4 i j j1 j2 (.inl hl)] at j3; cases j3
    have e2 : ¬ i2 < i := fun hl => hi2 i2 hl ⟨j2', h1, h2, h3⟩
    have e : i = i2 := by omega
    subst e
    have e3 : ¬ j < j2' := fun hl => by rw [h4 i j j1 j2 (.inr ⟨rfl, hl⟩)] at j3; cases j3
    have e4 : ¬ j2' < j := fun hl => hj2 j2' hl ⟨h1, h2, h3⟩
    exact ⟨rfl, by omega, rfl⟩
def agP (zs : List Int) (l : Pts) (i j : Nat) : Bool := agr (zs.getD i 0) (zs.getD j 0) (l.getD i (0, 0)) (l.getD j (0, 0))
theorem awB_parts {zs : List Int} {E : Int} {l : Pts} (h : awB zs E l = true) : l.length = zs.length ∧ ∀ i, i < l.length → okA (zs.getD i 0) (l.getD i (0, 0)) = true := by
  have := of_decide_eq_true h
  exact ⟨this.1, this.2.1⟩
set_option maxHeartbeats 4000000 in
set_option maxRecDepth 100000 in
theorem agrees_no1 {v u : Value} {zs : List Int} {E : Int} {w : World} (hc : IntsO w v zs) (hD : decide (Valid zs ∧ 0 ≤ E ∧ E ≤ zs.sum) = false) :
    Calls Try.prog 31 #[v, .int .i64 E, u] w fun r w' => r = .returned (.tuple #[.agg #[.int .i64 0, .int .i64 0], .bool false, .int .i64 2]) ∧ Below w.heap.size w w' := by
  obtain ⟨w1, hw1⟩ : ∃ w1, w.alloc (.cells #[.int .i64 0, .int .i64 0] 22) = w1 := ⟨_, rfl⟩
  have hb1 : Below w.heap.size w w1 := by rw [← hw1]; exact (Below.refl _ _).alloc (Nat.le_refl _) _
  have b6 : BlkAt w1 w.heap.size #[.int .i64 0, .int .i64 0] 22 := by rw [← hw1]; exact BlkAt.new _ _ _
  have q62 : Calls Try.prog 62 #[v, .int .i64 E] w1 fun r w' => ∃ p, r = .returned (.tuple #[.pointer p, .bool false]) ∧ Below w1.heap.size w1 w' := by
    have hc1 := intsO_below hc hb1
    by_cases hV : Valid zs
    · refine (readHeirs_any (e := E) hc1 hV).mono ?_
      rintro r w' ⟨rfl, hb, _⟩
      refine ⟨some ⟨w1.heap.size, 0, none⟩, ?_, hb⟩
      rw [show decide (0 ≤ E ∧ E ≤ zs.sum) = false from decide_eq_false fun h => of_decide_eq_false hD ⟨hV, h⟩]
    · refine (readHeirs_no (e := E) hc1 hV).mono ?_
      rintro r w' ⟨rfl, hb⟩
      exact ⟨none, rfl, hb⟩
  clear hc hD
  go_enter Try.func31, Try.ntmps31
  go_wp2_with (go_at_call 62; (try rw [hw1]); (with_reducible refine q62.mono ?_); rintro e w2 ⟨p, rfl, hb2⟩
               have b6' := b6.after hb2
               obtain ⟨c0, c1, f0, f1⟩ := Own2.of b6'
               have hbw2 := hb1.trans (hb2.mono hb1.size)
               clear hb2 b6')
  refine bodyPost_ret (v := .tuple #[.agg #[.int .i64 0, .int .i64 0], .bool false, .int .i64 2]) (by simp [results, Try.results31, go_sem]; go_simp) rfl ?_
  exact ⟨rfl, (hbw2.setCell (p := ⟨w.heap.size, 0, none⟩) (Nat.le_refl _) _).setCell (p := ⟨w.heap.size, 1, none⟩) (Nat.le_refl _) _⟩
set_option maxHeartbeats 4000000 in
set_option maxRecDepth 100000 in
theorem agrees_no2 {v u : Value} {zs : List Int} {E : Int} {l : Pts} {w : World} (hc : IntsO w v zs) (hD : decide (Valid zs ∧ 0 ≤ E ∧ E ≤ zs.sum) = true) (hv : FracsO w u l) (hw : Wide l) (hlen : l.length ≤ 1000) (hA : awB zs E l = false) :
    Calls Try.prog 31 #[v, .int .i64 E, u] w fun r w' => r = .returned (.tuple #[.agg #[.int .i64 0, .int .i64 0], .bool false, .int .i64 10]) ∧ Below w.heap.size w w' := by
  obtain ⟨w1, hw1⟩ : ∃ w1, w.alloc (.cells #[.int .i64 0, .int .i64 0] 22) = w1 := ⟨_, rfl⟩
  have hb1 : Below w.heap.size w w1 := by rw [← hw1]; exact (Below.refl _ _).alloc (Nat.le_refl _) _
  have b6 : BlkAt w1 w.heap.size #[.int .i64 0, .int .i64 0] 22 := by rw [← hw1]; exact BlkAt.new _ _ _
  obtain ⟨hV, hE⟩ := of_decide_eq_true hD
  have q62 := readHeirs_any (e := E) (intsO_below hc hb1) hV
  rw [decide_eq_true hE] at q62
  have q70 : ∀ w2 H, Below w1.heap.size w1 w2 → BlkAt w2 H #[v, .int .i64 E, .int .i64 zs.sum] 122 → Calls Try.prog 70 #[.pointer (some ⟨H, 0, none⟩), u] w2 fun r w' => r = .returned (.bool false) ∧ Below w2.heap.size w2 w' := fun w2 H hb2 hg => by
    have hb12 := hb1.trans (hb2.mono hb1.size)
    have := isAward_any ⟨hg⟩ (intsO_below hc hb12) hV.2.2 hV.2.1 (fracsO_below hv hb12) hw hlen
    rw [hA] at this
    exact this
  obtain ⟨H, hH⟩ : ∃ H, w1.heap.size = H := ⟨_, rfl⟩
  rw [hH] at q62 q70
  have hwH : w.heap.size < H := by have := b6.lt; omega
  clear hc hD hv hw hlen hA hV hE hH
  go_enter Try.func31, Try.ntmps31
  go_wp2_with (first
    | (go_at_call 62; (try rw [hw1]); (with_reducible refine q62.mono ?_); rintro e w2 ⟨rfl, hb2, hg2⟩)
    | (go_at_call 70; (with_reducible refine (q70 _ _ hb2 hg2).mono ?_); rintro e w3 ⟨rfl, hb3⟩
       have hl := hg2.lt
       have b6' := (b6.below hb2 hwH).after hb3
       obtain ⟨c0, c1, f0, f1⟩ := Own2.of b6'
       have hbw2 := hb1.trans ((hb2.mono (Nat.le_of_lt hwH)).trans (hb3.mono (Nat.le_trans hb1.size hb2.size)))
       clear hb2 b6'))
  refine bodyPost_ret (v := .tuple #[.agg #[.int .i64 0, .int .i64 0], .bool false, .int .i64 10]) (by simp [results, Try.results31, go_sem]; go_simp) rfl ?_
  exact ⟨rfl, (hbw2.setCell (p := ⟨w.heap.size, 0, none⟩) (Nat.le_refl _) _).setCell (p := ⟨w.heap.size, 1, none⟩) (Nat.le_refl _) _⟩
set_option maxHeartbeats 8000000 in
set_option maxRecDepth 100000 in
theorem agrees_yes {v u : Value} {zs : List Int} {E x y : Int} {is : Bool} {l : Pts} {w : World} (hc : IntsO w v zs) (hD : decide (Valid zs ∧ 0 ≤ E ∧ E ≤ zs.sum) = true) (hv : FracsO w u l) (hw : Wide l) (hlen : l.length ≤ 1000) (hA : awB zs E l = true)
    (hF : Fst (agP zs l) l.length x y is) :
    Calls Try.prog 31 #[v, .int .i64 E, u] w fun r w' => r = .returned (.tuple #[.agg #[.int .i64 x, .int .i64 y], .bool is, .int .i64 0]) ∧ Below w.heap.size w w' := by
  obtain ⟨w1, hw1⟩ : ∃ w1, w.alloc (.cells #[.int .i64 0, .int .i64 0] 22) = w1 := ⟨_, rfl⟩
  have hb1 : Below w.heap.size w w1 := by rw [← hw1]; exact (Below.refl _ _).alloc (Nat.le_refl _) _
  have b6 : BlkAt w1 w.heap.size #[.int .i64 0, .int .i64 0] 22 := by rw [← hw1]; exact BlkAt.new _ _ _
  obtain ⟨hV, hE⟩ := of_decide_eq_true hD
  obtain ⟨hA1, hA2⟩ := awB_parts hA
  have q62 := readHeirs_any (e := E) (intsO_below hc hb1) hV
  rw [decide_eq_true hE] at q62
  have q70 : ∀ w2 H, Below w1.heap.size w1 w2 → BlkAt w2 H #[v, .int .i64 E, .int .i64 zs.sum] 122 → Calls Try.prog 70 #[.pointer (some ⟨H, 0, none⟩), u] w2 fun r w' => r = .returned (.bool true) ∧ Below w2.heap.size w2 w' := fun w2 H hb2 hg => by
    have hb12 := hb1.trans (hb2.mono hb1.size)
    have := isAward_any ⟨hg⟩ (intsO_below hc hb12) hV.2.2 hV.2.1 (fracsO_below hv hb12) hw hlen
    rw [hA] at this
    exact this
  have q71 : ∀ w3 w5 H (k m : Nat), Below w.heap.size w w3 → BlkAt w3 H #[v, .int .i64 E, .int .i64 zs.sum] 122 → Below w3.heap.size w3 w5 → k < l.length → m < l.length →
      Calls Try.prog 71 #[.pointer (some ⟨H, 0, none⟩), u, .int .i64 k, .int .i64 m] w5 fun r w' => r = .returned (.bool (agP zs l k m)) ∧ Below w5.heap.size w5 w' := fun w3 w5 H k m hb3 hg hb5 h1 h2 => by
    have hb := hb3.trans (hb5.mono hb3.size)
    exact agree_any ⟨hg.after hb5⟩ (intsO_below hc hb) (fracsO_below hv hb) h1 h2 hA1 hlen hA2 hV.2.2
  obtain ⟨H, hH⟩ : ∃ H, w1.heap.size = H := ⟨_, rfl⟩
  rw [hH] at q62 q70
  have hwH : w.heap.size < H := by have := b6.lt; omega
  obtain ⟨A, cap, rfl, -⟩ := hv
  have hFb := Keep.mk hF.bad
  have hFg := Keep.mk hF.good
  generalize agP zs l = p at *
  clear hc hD hw hA hV hE hH hA1 hA2 hF
  go_enter Try.func31, Try.ntmps31
  go_wp2_with (first
    | (go_at_call 62; (try rw [hw1]); (with_reducible refine q62.mono ?_); rintro e w2 ⟨rfl, hb2, hg2⟩)
    | (go_at_call 70; (with_reducible refine (q70 _ _ hb2 hg2).mono ?_); rintro e w3 ⟨rfl, hb3⟩
       have b6' := (b6.below hb2 hwH).after hb3
       have hg3 := hg2.after hb3
       have hbw3 := hb1.trans ((hb2.mono (Nat.le_of_lt hwH)).trans (hb3.mono (Nat.le_trans hb1.size hb2.size)))
       clear hb2 hb3 hg2 q62 q70))
  go_loopw [29] (fun i wr => ∃ k : Nat, k ≤ l.length ∧ i = .int .i64 k ∧ Below w3.heap.size w3 wr ∧ Keep (∀ i' j' : Nat, i' < j' → j' < l.length → i' < k → p i' j' = true)) (fun i _ => l.length - (intOf i).toNat)
  case atStart => exact ⟨0, by omega, rfl, Below.refl _ _, ⟨fun i' j' _ _ h => by omega⟩⟩
  case round =>
    obtain ⟨k, hk, rfl, hbw, hall⟩ := hrel
    by_cases hlt : k < l.length
    · have hkk : IntKind.i64.wrap ((k : Int) + 1) = (k : Int) + 1 := IntWalk.i64_in _ (by omega)
      go_wp2
      go_loopw [12] (fun j wq => ∃ m : Nat, k + 1 ≤ m ∧ m ≤ l.length ∧ j = .int .i64 m ∧ Below w3.heap.size w3 wq ∧ Keep (∀ i' j' : Nat, i' < j' → j' < l.length → (i' < k ∨ (i' = k ∧ j' < m)) → p i' j' = true)) (fun j _ => l.length - (intOf j).toNat)
      case atStart => exact ⟨k + 1, by omega, by omega, by go_num, hbw, ⟨fun i' j' h1 h2 h => hall.out i' j' h1 h2 (by omega)⟩⟩
      case round =>
        obtain ⟨m, hm1, hm, rfl, hbq, hal2⟩ := hrel
        have hmm : IntKind.i64.wrap ((m : Int) + 1) = (m : Int) + 1 := IntWalk.i64_in _ (by omega)
        have hqz := hbq.size
        by_cases hlt2 : m < l.length
        · have q := q71 w3 _ H k m hbw3 hg3 hbq hlt hlt2
          cases hp : p k m with
          | true =>
            rw [hp] at q
            go_wp2_with (go_at_call 71; (with_reducible refine q.mono ?_); rintro e w5 ⟨rfl, hb5⟩)
            refine ⟨⟨m + 1, by omega, by omega, by go_num, hbq.trans (hb5.mono hqz), ⟨fun i' j' h1 h2 h => ?_⟩⟩, by simp [intOf]; omega⟩
            rcases h with h | ⟨rfl, h⟩
            · exact hal2.out i' j' h1 h2 (.inl h)
            · rcases Nat.lt_or_ge j' m with h' | h'
              · exact hal2.out _ j' h1 h2 (.inr ⟨rfl, h'⟩)
              · obtain rfl : j' = m := by omega
                exact hp
          | false =>
            rw [hp] at q
            obtain ⟨ex, ey, ei⟩ := hFb.out k m (by omega) hlt2 hp hal2.out
            have hx := Keep.mk ex
            have hy := Keep.mk ey
            have hz := Keep.mk ei
            clear ex ey ei
            go_wp2_with (go_at_call 71; (with_reducible refine q.mono ?_); rintro e w5 ⟨rfl, hb5⟩
                         have hb35 := hbq.trans (hb5.mono hqz)
                         obtain ⟨c0, c1, f0, f1⟩ := Own2.of (b6'.after hb35)
                         have hbw5 := hbw3.trans (hb35.mono hbw3.size)
                         clear hb5 hb35)
            refine bodyPost_ret (v := .tuple #[.agg #[.int .i64 k, .int .i64 m], .bool false, .int .i64 0]) (by simp [results, Try.results31, go_sem]; go_simp) rfl ?_
            exact ⟨by rw [hx.out, hy.out, hz.out], (hbw5.setCell (p := ⟨w.heap.size, 0, none⟩) (Nat.le_refl _) _).setCell (p := ⟨w.heap.size, 1, none⟩) (Nat.le_refl _) _⟩
        · obtain rfl : m = l.length := by omega
          go_wp2
          refine ⟨⟨k + 1, by omega, by go_num, hbq, ⟨fun i' j' h1 h2 h => ?_⟩⟩, by simp [intOf]; omega⟩
          rcases Nat.lt_or_ge i' k with h' | h'
          · exact hal2.out i' j' h1 h2 (.inl h')
          · exact hal2.out i' j' h1 h2 (.inr ⟨by omega, h2⟩)
    · obtain rfl : k = l.length := by omega
      obtain ⟨ex, ey, ei⟩ := hFg.out fun i j h1 h2 => hall.out i j h1 h2 (by omega)
      have hx := Keep.mk ex
      have hy := Keep.mk ey
      have hz := Keep.mk ei
      clear ex ey ei
      obtain ⟨c0, c1, f0, f1⟩ := Own2.of (b6'.after hbw)
      have hbw5 := hbw3.trans (hbw.mono hbw3.size)
      go_wp2
      refine bodyPost_ret (v := .tuple #[.agg #[.int .i64 0, .int .i64 0], .bool true, .int .i64 0]) (by simp [results, Try.results31, go_sem]; go_simp) rfl ?_
      exact ⟨by rw [hx.out, hy.out, hz.out], (hbw5.setCell (p := ⟨w.heap.size, 0, none⟩) (Nat.le_refl _) _).setCell (p := ⟨w.heap.size, 1, none⟩) (Nat.le_refl _) _⟩
end Go.Proofs.Ytbocmbhinjkjlaa
