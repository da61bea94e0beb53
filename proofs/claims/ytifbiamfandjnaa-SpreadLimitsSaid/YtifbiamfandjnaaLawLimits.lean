import Derived.Test.YtifbiamfandjnaaLimFacts
import Derived.Test.YtifbiamfandjnaaTame
import Derived.Test.YtifbiamfandjnaaAwake
import Derived.Test.YtifbiamfandjnaaOpenArgs
set_option linter.unusedSimpArgs false
set_option linter.unusedVariables false
namespace Go.Proofs.Ytifbiamfandjnaa
open Go Go.Proofs Go.RowKit
theorem mod_int' (x : Int) {m : Int} (h1 : 1 ≤ m) (h2 : m ≤ 1000000000) (w : World) :
    Calls Try.prog 49 #[.int .i64 x, .int .i64 m] w fun e w' => (∃ r : Nat, (r : Int) < m ∧ e = .returned (.int .i64 r)) ∧ w' = w := by
  obtain ⟨n, rfl⟩ : ∃ n : Nat, m = (n : Int) := ⟨m.toNat, by omega⟩
  exact (mod_any x (m := n) (by omega) (by omega) w).mono fun e w' ⟨⟨r, hr, he⟩, hw⟩ => ⟨⟨r, by omega, he⟩, hw⟩
/-- What the law holds behind its calls: the three boxes that it loads from, the interval's place, the points. -/
structure LimAt (W : World) (b2 b4 b5 : Nat) (x y x2 y2 u q : Int) (s t' : Nat) (v : Value) (L : List Int) : Prop where
  d : W.heap[b2]? = some (.cells #[.int .i64 x, .int .i64 y] 25 (0, 0))
  f : W.heap[b4]? = some (.cells #[.int .i64 x2, .int .i64 y2] 25 (0, 0))
  g : W.heap[b5]? = some (.cells #[.int .i64 u, .int .i64 q] 25 (0, 0))
  h : W.heap[b5 + 1]? = some (.cells #[.int .i64 s, .int .i64 t'] 39 (0, 0))
  li : IntsAt W v L
theorem LimAt.below {W W' : World} {b2 b4 b5 : Nat} {x y x2 y2 u q : Int} {s t' : Nat} {v : Value} {L : List Int} (k : LimAt W b2 b4 b5 x y x2 y2 u q s t' v L) (hb : Below W.heap.size W W') : LimAt W' b2 b4 b5 x y x2 y2 u q s t' v L :=
  ⟨(hb.block _ (Array.getElem?_eq_some_iff.1 k.d).1).trans k.d, (hb.block _ (Array.getElem?_eq_some_iff.1 k.f).1).trans k.f, (hb.block _ (Array.getElem?_eq_some_iff.1 k.g).1).trans k.g, (hb.block _ (Array.getElem?_eq_some_iff.1 k.h).1).trans k.h, ints_below k.li hb⟩
theorem LimAt.lt {W : World} {b2 b4 b5 : Nat} {x y x2 y2 u q : Int} {s t' : Nat} {v : Value} {L : List Int} (k : LimAt W b2 b4 b5 x y x2 y2 u q s t' v L) : b2 < W.heap.size ∧ b4 < W.heap.size ∧ b5 < W.heap.size ∧ b5 + 1 < W.heap.size :=
  ⟨(Array.getElem?_eq_some_iff.1 k.d).1, (Array.getElem?_eq_some_iff.1 k.f).1, (Array.getElem?_eq_some_iff.1 k.g).1, (Array.getElem?_eq_some_iff.1 k.h).1⟩
theorem LimAt.facts {W : World} {b2 b4 b5 : Nat} {x y x2 y2 u q : Int} {s t' : Nat} {v : Value} {L : List Int} (k : LimAt W b2 b4 b5 x y x2 y2 u q s t' v L) :
    (W.cell? ⟨b2, 0, none⟩ = some (.int .i64 x) ∧ W.cell? ⟨b2, 1, none⟩ = some (.int .i64 y)) ∧ (W.cell? ⟨b4, 0, none⟩ = some (.int .i64 x2) ∧ W.cell? ⟨b4, 1, none⟩ = some (.int .i64 y2)) ∧
    (W.cell? ⟨b5, 0, none⟩ = some (.int .i64 u) ∧ W.cell? ⟨b5, 1, none⟩ = some (.int .i64 q)) ∧ (W.cell? ⟨b5 + 1, 0, none⟩ = some (.int .i64 s) ∧ W.cell? ⟨b5 + 1, 1, none⟩ = some (.int .i64 t')) := by
  have h1 := k.d
  have h2 := k.f
  have h3 := k.g
  have h4 := k.h
  simp [World.cell?, h1, h2, h3, h4]
set_option maxHeartbeats 4000000 in
set_option maxRecDepth 100000 in
theorem limits_any {n tt : Int} {v : Value} {zs : List Int} {w : World} (hv : ArgInts w v zs) :
    Calls Try.prog 9 #[.int .i64 n, v, .int .i64 tt] w fun e w' => e = .returned (.bool true) ∧ Below w.heap.size w w' := by
  have q48 := tame_any (n := n) hv
  clear hv
  go_enter Try.func9, Try.ntmps9
  go_wp2_with (first
    | (go_at_call 48; refine q48.mono ?_; rintro e w1 ⟨N, v', L, rfl, hok, hi1, hb1⟩
       have hN := hok
       unfold okLine at hN
       rw [Bool.and_eq_true, decide_eq_true_iff] at hN
       have hN1 : 1 ≤ N := by omega
       have hN2 : N ≤ 1000 := by omega
       obtain ⟨m, hm⟩ : ∃ m, L.length = m := ⟨_, rfl⟩
       have q49 := fun w => mod_int' tt (m := (N : Int) + 1) (by omega) (by omega) w
       clear q48 hN)
    | (go_at_call 49; (with_reducible refine (q49 _).mono ?_); rintro e w0 ⟨⟨t, ht, rfl⟩, rfl⟩
       have htN : t ≤ N := by omega
       obtain ⟨⟨hm1, hm2, _, _⟩, a, s, t', B, l, x, y, x2, y2, u, vv, p, q, q16, q17a, q17b, q23, hne, hst, hwx, hBe, l1, l2, l3, q22, l4, l5⟩ := lim_facts hok hm htN
       obtain ⟨A, cap, hve, _⟩ := id hi1
       rw [hm] at hve
       subst hve
       have w2n : IntKind.i64.wrap (2 * (m : Int)) = 2 * (m : Int) := IntWalk.i64_in _ (by omega)
       have exy : ∀ w, (Op.equalIn 10000 25 (.agg #[.int .i64 x, .int .i64 y]) (.agg #[.int .i64 x, .int .i64 y])).run Try.prog w = .ok true w := fun w => by rw [eq25]; simp
       have exy2 : t < a → ∀ w, (Op.equalIn 10000 25 (.agg #[.int .i64 x, .int .i64 y]) (.agg #[.int .i64 x2, .int .i64 y2])).run Try.prog w = .ok false w := fun h w => by
         have hne := hne h
         rw [eq25, show (x == x2 && y == y2) = false by rw [Bool.and_eq_false_iff, beq_eq_false_iff_ne, beq_eq_false_iff_ne]; by_cases h : x = x2; exact .inr fun h' => hne ⟨h, h'⟩; exact .inl h]
       by_cases hta : t < a
       all_goals (first | (have exy3 := exy2 hta) | skip)
       all_goals clear q49 hok hne exy2)
    | (go_at_call 16; (with_reducible refine (q16 _ _ hi1).mono ?_); rintro e w2 ⟨rfl, hb2⟩
       have hi2 := ints_below (ints_below hi1 hb2) ((Below.refl _ _).alloc (Nat.le_refl _) (.cells #[.int .i64 x, .int .i64 y] 25))
       have hbw2 : Below w.heap.size w (w2.alloc (.cells #[.int .i64 x, .int .i64 y] 25)) := (hb1.trans (hb2.mono hb1.size)).alloc (Nat.le_trans hb1.size hb2.size) _
       clear q16 hb1 hb2 hi1)
    | (go_at_call 17; (with_reducible refine (q17a _ _ hi2).mono ?_); rintro e w3 ⟨rfl, hb3⟩
       have hi3 := ints_below (ints_below hi2 hb3) ((Below.refl _ _).alloc (Nat.le_refl _) (.cells #[.int .i64 x, .int .i64 y] 25))
       have D0 : w3.cell? ⟨w2.heap.size, 0, none⟩ = some (.int .i64 x) := cell_below (by go_simp) hb3
       have D1 : w3.cell? ⟨w2.heap.size, 1, none⟩ = some (.int .i64 y) := cell_below (by go_simp) hb3
       have hs3 : w2.heap.size < w3.heap.size := by have := hb3.size; simp at this; omega
       have R3 : w3.heap[w2.heap.size]? = some (.cells #[.int .i64 x, .int .i64 y] 25 (0, 0)) := (hb3.block _ (by simp)).trans (World.alloc_heap_new _ _)
       have hbw3 : Below w.heap.size w (w3.alloc (.cells #[.int .i64 x, .int .i64 y] 25)) := (hbw2.trans (hb3.mono hbw2.size)).alloc (Nat.le_trans hbw2.size hb3.size) _
       clear q17a hb3 hi2 hbw2)
    | (go_at_call 17; (with_reducible refine (q17b _ _ hi3).mono ?_); rintro e w4 ⟨rfl, hb4⟩
       have hi4 := ints_below (ints_below hi3 hb4) ((Below.refl _ _).alloc (Nat.le_refl _) (.cells #[.int .i64 x2, .int .i64 y2] 25))
       have D0 : w4.cell? ⟨w2.heap.size, 0, none⟩ = some (.int .i64 x) := cell_below (by go_simp) hb4
       have D1 : w4.cell? ⟨w2.heap.size, 1, none⟩ = some (.int .i64 y) := cell_below (by go_simp) hb4
       have E0 : w4.cell? ⟨w3.heap.size, 0, none⟩ = some (.int .i64 x) := cell_below (by go_simp) hb4
       have E1 : w4.cell? ⟨w3.heap.size, 1, none⟩ = some (.int .i64 y) := cell_below (by go_simp) hb4
       have hs4 : w3.heap.size < w4.heap.size := by have := hb4.size; simp at this; omega
       have hs4a : w2.heap.size < w4.heap.size := by omega
       have R4 : w4.heap[w2.heap.size]? = some (.cells #[.int .i64 x, .int .i64 y] 25 (0, 0)) := (hb4.block _ (by simp; omega)).trans ((Below.heap_alloc _ _ _ hs3).trans R3)
       clear R3
       have hbw4 : Below w.heap.size w (w4.alloc (.cells #[.int .i64 x2, .int .i64 y2] 25)) := (hbw3.trans (hb4.mono hbw3.size)).alloc (Nat.le_trans hbw3.size hb4.size) _
       clear q17b hb4 hi3 hbw3)
    | (go_at_call 23; (with_reducible refine (q23 _ _ hi4).mono ?_); rintro e w5 ⟨rfl, hb5⟩
       have D0 : w5.cell? ⟨w2.heap.size, 0, none⟩ = some (.int .i64 x) := cell_below (by go_simp) hb5
       have D1 : w5.cell? ⟨w2.heap.size, 1, none⟩ = some (.int .i64 y) := cell_below (by go_simp) hb5
       have E0 : w5.cell? ⟨w3.heap.size, 0, none⟩ = some (.int .i64 x) := cell_below (by go_simp) hb5
       have E1 : w5.cell? ⟨w3.heap.size, 1, none⟩ = some (.int .i64 y) := cell_below (by go_simp) hb5
       have F0 : w5.cell? ⟨w4.heap.size, 0, none⟩ = some (.int .i64 x2) := cell_below (by go_simp) hb5
       have F1 : w5.cell? ⟨w4.heap.size, 1, none⟩ = some (.int .i64 y2) := cell_below (by go_simp) hb5
       have hs5 : w4.heap.size < w5.heap.size := by have := hb5.size; simp at this; omega
       have hs5a : w2.heap.size < w5.heap.size := by omega
       have hs5b : w3.heap.size < w5.heap.size := by omega
       have R5 : w5.heap[w2.heap.size]? = some (.cells #[.int .i64 x, .int .i64 y] 25 (0, 0)) := (hb5.block _ (by simp; omega)).trans ((Below.heap_alloc _ _ _ hs4a).trans R4)
       have Q5 : w5.heap[w4.heap.size]? = some (.cells #[.int .i64 x2, .int .i64 y2] 25 (0, 0)) := (hb5.block _ (by simp)).trans (World.alloc_heap_new _ _)
       clear R4
       have hi5 := ints_below hi4 hb5
       have hbw5 : Below w.heap.size w w5 := hbw4.trans (hb5.mono hbw4.size)
       clear q23 hb5 hi4 hbw4)
    | (go_at_call 50; (with_reducible refine (l1 _).mono ?_); rintro e w6 ⟨rfl, hb6⟩
       have S6 : LimAt w6 w2.heap.size w4.heap.size w5.heap.size x y x2 y2 u vv s t' (.slice A m cap) L := by
         have S5 : LimAt ((w5.alloc (.cells #[.int .i64 u, .int .i64 vv] 25)).alloc (.cells #[.int .i64 s, .int .i64 t'] 39)) w2.heap.size w4.heap.size w5.heap.size x y x2 y2 u vv s t' (.slice A m cap) L := by
           refine ⟨?_, ?_, ?_, ?_, ints_below hi5 (((Below.refl _ _).alloc (Nat.le_refl _) _).alloc (by simp) _)⟩
           · rw [Below.heap_alloc _ _ _ (by simp; omega), Below.heap_alloc _ _ _ hs5a]; exact R5
           · rw [Below.heap_alloc _ _ _ (by simp; omega), Below.heap_alloc _ _ _ hs5]; exact Q5
           · rw [Below.heap_alloc _ _ _ (by simp)]; exact World.alloc_heap_new _ _
           · have := World.alloc_heap_new (w5.alloc (.cells #[.int .i64 u, .int .i64 vv] 25)) (.cells #[.int .i64 s, .int .i64 t'] 39); simpa using this
         exact S5.below hb6
       have hbw6 : Below w.heap.size w w6 := ((hbw5.alloc hbw5.size _).alloc (by have := hbw5.size; simp; omega) _).trans (hb6.mono (by have := hbw5.size; simp; omega))
       clear hb6 l1 D0 D1 E0 E1 F0 F1 hi5 hbw5 R5 Q5 hs5 hs5a hs5b
       obtain ⟨⟨D0, D1⟩, ⟨F0, F1⟩, ⟨V0, V1⟩, H0, H1⟩ := S6.facts)
    | (go_at_call 50; (with_reducible refine (l2 _).mono ?_); rintro e w7 ⟨rfl, hb7⟩
       have S7 := S6.below hb7
       have hbw7 := hbw6.trans (hb7.mono hbw6.size)
       clear hb7 l2 D0 D1 F0 F1 V0 V1 H0 H1 S6 hbw6
       obtain ⟨⟨D0, D1⟩, ⟨F0, F1⟩, ⟨V0, V1⟩, H0, H1⟩ := S7.facts)
    | (go_at_call 50; (with_reducible refine (l3 _).mono ?_); rintro e w8 ⟨rfl, hb8⟩
       have S8 := S7.below hb8
       have hbw8 := hbw7.trans (hb8.mono hbw7.size)
       clear hb8 l3 D0 D1 F0 F1 V0 V1 H0 H1 S7 hbw7))
  · obtain ⟨low, hlow⟩ : ∃ low, Keep (belowC L t = low) := ⟨_, ⟨rfl⟩⟩
    have hl60 : low ≤ 60 := by have := belowC_le L t; rw [hlow.out] at this; omega
    have hex : excT N L t = (low : Int) * (N : Int) - (t : Int) * (m : Int) := by unfold excT exc; rw [hlow.out, hm]
    rw [hex] at hBe
    have hmk := Keep.mk hm
    have hLc : Keep (∀ k, k < m → ∃ g, A = some ⟨g, 0, none⟩ ∧ w8.cell? ⟨g, k, none⟩ = some (.int .i64 (L.getD k 0))) := ⟨fun k hk => by
      obtain ⟨A', cap', he, hc⟩ := S8.li
      injection he with he1 he2 he3
      subst he1
      exact hc k (by omega)⟩
    have hBk := Keep.mk hBe
    have hS8 := Keep.mk S8
    clear hBe hex S8 hm exy
    go_loopw [19, 20] (fun c i wr => ∃ k : Nat, k ≤ m ∧ c = .int .i64 (belowC (L.take k) t : Nat) ∧ i = .int .i64 k ∧ wr = w8) (fun _ i _ => m - (intOf i).toNat)
    case atStart => exact ⟨0, by omega, by simp [belowC], rfl, rfl⟩
    case round =>
      obtain ⟨k, hk, rfl, rfl, hwr⟩ := hrel
      subst hwr
      by_cases hlt : k < m
      · obtain ⟨g, rfl, h1⟩ := hLc.out k hlt
        have hpush := belowC_push (L.take k) (L.getD k 0) t
        rw [← takez (by rw [hmk.out]; exact hlt)] at hpush
        have hle := belowC_le (L.take k) t
        rw [List.length_take] at hle
        obtain ⟨z, hz⟩ : ∃ z, L.getD k 0 = z := ⟨_, rfl⟩
        obtain ⟨c, hc⟩ : ∃ c, belowC (L.take k) t = c := ⟨_, rfl⟩
        rw [hz] at h1 hpush
        rw [hc] at hpush hle ⊢
        have hc60 : c ≤ 60 := by omega
        have hpk := Keep.mk hpush
        clear hpush hz hc hle
        by_cases hzt : z < (t : Int)
        · have h2 : Keep (belowC (L.take (k + 1)) t = c + 1) := ⟨by rw [hpk.out, if_pos hzt]⟩
          clear hpk
          go_wp2
          exact ⟨⟨k + 1, by omega, by rw [h2.out]; go_num, by go_num, by first | trivial | rfl⟩, by simp [intOf]; omega⟩
        · have h2 : Keep (belowC (L.take (k + 1)) t = c) := ⟨by rw [hpk.out, if_neg hzt]; rfl⟩
          clear hpk
          go_wp2
          exact ⟨⟨k + 1, by omega, by rw [h2.out], by go_num, by first | trivial | rfl⟩, by simp [intOf]; omega⟩
      · have hkm : k = m := by omega
        subst hkm
        have htk : belowC (L.take k) t = low := by rw [List.take_of_length_le (by rw [hmk.out]; exact Nat.le_refl _)]; exact hlow.out
        rw [htk]
        have b1 : low * N ≤ 60 * 1000 := Nat.mul_le_mul hl60 hN2
        have b2 : t * k ≤ 1000 * 60 := Nat.mul_le_mul (by omega) hm2
        have b3 : N * k ≤ 1000 * 60 := Nat.mul_le_mul hN2 hm2
        have i1 : ((low * N : Nat) : Int) = (low : Int) * N := Int.natCast_mul _ _
        have i2 : ((t * k : Nat) : Int) = (t : Int) * k := Int.natCast_mul _ _
        have i3 : ((N * k : Nat) : Int) = (N : Int) * k := Int.natCast_mul _ _
        obtain ⟨pp, hpp⟩ : ∃ pp, Keep ((low : Int) * (N : Int) = pp) := ⟨_, ⟨rfl⟩⟩
        obtain ⟨qq, hqq⟩ : ∃ qq, Keep ((t : Int) * (k : Int) = qq) := ⟨_, ⟨rfl⟩⟩
        have hBB := hBk.out
        rw [hpp.out, hqq.out] at hBB
        rw [hpp.out] at i1
        rw [hqq.out] at i2
        have e1 : IntKind.i64.wrap ((low : Int) * (N : Int)) = pp := by rw [hpp.out]; exact IntWalk.i64_in _ (by omega)
        have e2 : IntKind.i64.wrap ((t : Int) * (k : Int)) = qq := by rw [hqq.out]; exact IntWalk.i64_in _ (by omega)
        have e3 : IntKind.i64.wrap (pp - qq) = pp - qq := IntWalk.i64_in _ (by omega)
        have e4 : IntKind.i64.wrap (qq - pp) = qq - pp := IntWalk.i64_in _ (by omega)
        have e5 : IntKind.i64.wrap ((N : Int) * (k : Int)) = (N : Int) * k := IntWalk.i64_in _ (by omega)
        have hmax : (if pp - qq < qq - pp then qq - pp else pp - qq) = (B : Int) := by rw [hBB]; split <;> omega
        obtain ⟨⟨D0, D1⟩, ⟨F0, F1⟩, ⟨V0, V1⟩, H0, H1⟩ := hS8.out.facts
        clear i1 i2 i3 b1 b2 b3 hBB htk hlt hk
        have hstk : (s : Int) < (t' : Int) := by omega
        go_wp2_with (first
          | (go_at_call 22; (with_reducible refine (q22 _).mono ?_); rintro e w9 ⟨rfl, hb9⟩
             have S9 := hS8.out.below hb9
             have hbw9 := hbw8.trans (hb9.mono hbw8.size)
             clear hb9 q22 D0 D1 F0 F1 V0 V1 H0 H1 hbw8
             obtain ⟨⟨D0, D1⟩, ⟨F0, F1⟩, ⟨V0, V1⟩, H0, H1⟩ := S9.facts
             obtain ⟨j1, j2, j3, j4⟩ := S9.lt)
          | (go_at_call 50; (with_reducible refine (l4 _).mono ?_); rintro e wa ⟨rfl, hba⟩
             have Sa := (S9.below ((Below.refl _ _).alloc (Nat.le_refl _) _)).below hba
             have hbwa := (hbw9.alloc hbw9.size _).trans (hba.mono (by have := hbw9.size; simp; omega))
             clear hba l4 D0 D1 F0 F1 V0 V1 H0 H1 S9 hbw9
             obtain ⟨⟨D0, D1⟩, ⟨F0, F1⟩, ⟨V0, V1⟩, H0, H1⟩ := Sa.facts)
          | (go_at_call 50; (with_reducible refine (l5 _).mono ?_); rintro e wb ⟨rfl, hbb⟩
             have Sb := Sa.below hbb
             have hbwb := hbwa.trans (hbb.mono hbwa.size)
             clear hbb l5 D0 D1 F0 F1 V0 V1 H0 H1 Sa hbwa
             obtain ⟨⟨D0, D1⟩, ⟨F0, F1⟩, ⟨V0, V1⟩, H0, H1⟩ := Sb.facts)
          | (go_at_call 19; refine (awake_any _).mono ?_; rintro e wc ⟨rfl, hbc⟩))
        all_goals go_ret
        all_goals exact ⟨rfl, hbwb.trans (hbc.mono hbwb.size)⟩
  · obtain ⟨low, hlow⟩ : ∃ low, Keep (belowC L t = low) := ⟨_, ⟨rfl⟩⟩
    have hl60 : low ≤ 60 := by have := belowC_le L t; rw [hlow.out] at this; omega
    have hex : excT N L t = (low : Int) * (N : Int) - (t : Int) * (m : Int) := by unfold excT exc; rw [hlow.out, hm]
    rw [hex] at hBe
    have hmk := Keep.mk hm
    have hLc : Keep (∀ k, k < m → ∃ g, A = some ⟨g, 0, none⟩ ∧ w8.cell? ⟨g, k, none⟩ = some (.int .i64 (L.getD k 0))) := ⟨fun k hk => by
      obtain ⟨A', cap', he, hc⟩ := S8.li
      injection he with he1 he2 he3
      subst he1
      exact hc k (by omega)⟩
    have hBk := Keep.mk hBe
    have hS8 := Keep.mk S8
    clear hBe hex S8 hm exy
    go_loopw [19, 20] (fun c i wr => ∃ k : Nat, k ≤ m ∧ c = .int .i64 (belowC (L.take k) t : Nat) ∧ i = .int .i64 k ∧ wr = w8) (fun _ i _ => m - (intOf i).toNat)
    case atStart => exact ⟨0, by omega, by simp [belowC], rfl, rfl⟩
    case round =>
      obtain ⟨k, hk, rfl, rfl, hwr⟩ := hrel
      subst hwr
      by_cases hlt : k < m
      · obtain ⟨g, rfl, h1⟩ := hLc.out k hlt
        have hpush := belowC_push (L.take k) (L.getD k 0) t
        rw [← takez (by rw [hmk.out]; exact hlt)] at hpush
        have hle := belowC_le (L.take k) t
        rw [List.length_take] at hle
        obtain ⟨z, hz⟩ : ∃ z, L.getD k 0 = z := ⟨_, rfl⟩
        obtain ⟨c, hc⟩ : ∃ c, belowC (L.take k) t = c := ⟨_, rfl⟩
        rw [hz] at h1 hpush
        rw [hc] at hpush hle ⊢
        have hc60 : c ≤ 60 := by omega
        have hpk := Keep.mk hpush
        clear hpush hz hc hle
        by_cases hzt : z < (t : Int)
        · have h2 : Keep (belowC (L.take (k + 1)) t = c + 1) := ⟨by rw [hpk.out, if_pos hzt]⟩
          clear hpk
          go_wp2
          exact ⟨⟨k + 1, by omega, by rw [h2.out]; go_num, by go_num, by first | trivial | rfl⟩, by simp [intOf]; omega⟩
        · have h2 : Keep (belowC (L.take (k + 1)) t = c) := ⟨by rw [hpk.out, if_neg hzt]; rfl⟩
          clear hpk
          go_wp2
          exact ⟨⟨k + 1, by omega, by rw [h2.out], by go_num, by first | trivial | rfl⟩, by simp [intOf]; omega⟩
      · have hkm : k = m := by omega
        subst hkm
        have htk : belowC (L.take k) t = low := by rw [List.take_of_length_le (by rw [hmk.out]; exact Nat.le_refl _)]; exact hlow.out
        rw [htk]
        have b1 : low * N ≤ 60 * 1000 := Nat.mul_le_mul hl60 hN2
        have b2 : t * k ≤ 1000 * 60 := Nat.mul_le_mul (by omega) hm2
        have b3 : N * k ≤ 1000 * 60 := Nat.mul_le_mul hN2 hm2
        have i1 : ((low * N : Nat) : Int) = (low : Int) * N := Int.natCast_mul _ _
        have i2 : ((t * k : Nat) : Int) = (t : Int) * k := Int.natCast_mul _ _
        have i3 : ((N * k : Nat) : Int) = (N : Int) * k := Int.natCast_mul _ _
        obtain ⟨pp, hpp⟩ : ∃ pp, Keep ((low : Int) * (N : Int) = pp) := ⟨_, ⟨rfl⟩⟩
        obtain ⟨qq, hqq⟩ : ∃ qq, Keep ((t : Int) * (k : Int) = qq) := ⟨_, ⟨rfl⟩⟩
        have hBB := hBk.out
        rw [hpp.out, hqq.out] at hBB
        rw [hpp.out] at i1
        rw [hqq.out] at i2
        have e1 : IntKind.i64.wrap ((low : Int) * (N : Int)) = pp := by rw [hpp.out]; exact IntWalk.i64_in _ (by omega)
        have e2 : IntKind.i64.wrap ((t : Int) * (k : Int)) = qq := by rw [hqq.out]; exact IntWalk.i64_in _ (by omega)
        have e3 : IntKind.i64.wrap (pp - qq) = pp - qq := IntWalk.i64_in _ (by omega)
        have e4 : IntKind.i64.wrap (qq - pp) = qq - pp := IntWalk.i64_in _ (by omega)
        have e5 : IntKind.i64.wrap ((N : Int) * (k : Int)) = (N : Int) * k := IntWalk.i64_in _ (by omega)
        have hmax : (if pp - qq < qq - pp then qq - pp else pp - qq) = (B : Int) := by rw [hBB]; split <;> omega
        obtain ⟨⟨D0, D1⟩, ⟨F0, F1⟩, ⟨V0, V1⟩, H0, H1⟩ := hS8.out.facts
        clear i1 i2 i3 b1 b2 b3 hBB htk hlt hk
        have hstk : (s : Int) < (t' : Int) := by omega
        go_wp2_with (first
          | (go_at_call 22; (with_reducible refine (q22 _).mono ?_); rintro e w9 ⟨rfl, hb9⟩
             have S9 := hS8.out.below hb9
             have hbw9 := hbw8.trans (hb9.mono hbw8.size)
             clear hb9 q22 D0 D1 F0 F1 V0 V1 H0 H1 hbw8
             obtain ⟨⟨D0, D1⟩, ⟨F0, F1⟩, ⟨V0, V1⟩, H0, H1⟩ := S9.facts
             obtain ⟨j1, j2, j3, j4⟩ := S9.lt)
          | (go_at_call 50; (with_reducible refine (l4 _).mono ?_); rintro e wa ⟨rfl, hba⟩
             have Sa := (S9.below ((Below.refl _ _).alloc (Nat.le_refl _) _)).below hba
             have hbwa := (hbw9.alloc hbw9.size _).trans (hba.mono (by have := hbw9.size; simp; omega))
             clear hba l4 D0 D1 F0 F1 V0 V1 H0 H1 S9 hbw9
             obtain ⟨⟨D0, D1⟩, ⟨F0, F1⟩, ⟨V0, V1⟩, H0, H1⟩ := Sa.facts)
          | (go_at_call 50; (with_reducible refine (l5 _).mono ?_); rintro e wb ⟨rfl, hbb⟩
             have Sb := Sa.below hbb
             have hbwb := hbwa.trans (hbb.mono hbwa.size)
             clear hbb l5 D0 D1 F0 F1 V0 V1 H0 H1 Sa hbwa
             obtain ⟨⟨D0, D1⟩, ⟨F0, F1⟩, ⟨V0, V1⟩, H0, H1⟩ := Sb.facts)
          | (go_at_call 19; refine (awake_any _).mono ?_; rintro e wc ⟨rfl, hbc⟩))
        all_goals go_ret
        all_goals exact ⟨rfl, hbwb.trans (hbc.mono hbwb.size)⟩
end Go.Proofs.Ytifbiamfandjnaa
