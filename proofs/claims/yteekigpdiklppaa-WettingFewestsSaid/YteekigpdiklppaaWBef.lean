import Derived.Test.YteekigpdiklppaaWG
set_option linter.unusedSimpArgs false
set_option linter.unusedVariables false
namespace Go.Proofs.Yteekigpdiklppaa
open Go Go.Proofs Go.RowKit Go.Seq
attribute [local go_sem] Oper.semAt_some
/-- Before: smaller, or of the same size and first. -/
def IsBefore (s t : Nat → Bool) : Prop := sz s < sz t ∨ (sz t = sz s ∧ Lex s t)
set_option maxHeartbeats 4000000 in
set_option maxRecDepth 100000 in
theorem before_yes {s t : Nat → Bool} {a b : Nat} {w : World} (ha : num s = a) (hb : num t = b) (h : IsBefore s t) :
    Calls Try.prog 56 #[.int .i64 (a : Nat), .int .i64 (b : Nat)] w fun e w' => e = .returned (.bool true) ∧ Below w.heap.size w w' := by
  have hmx : Try.prog.follows .mixedOrders = true := by kernel_rfl
  obtain ⟨ls, hls⟩ : ∃ l, sz s = l := ⟨_, rfl⟩
  obtain ⟨lt, hlt⟩ : ∃ l, sz t = l := ⟨_, rfl⟩
  have q28a := fun W => oListSl (N := 12) ha hls W
  have q28b := fun W => oListSl (N := 12) hb hlt W
  have h12 : ls ≤ 12 := by rw [← hls]; exact vsTo_len s 12
  unfold IsBefore at h
  rw [hls, hlt] at h
  clear ha hb
  by_cases hne : lt = ls
  · have hx : Lex s t := by
      rcases h with h | h
      · omega
      · exact h.2
    have key : Keep (∀ k, k < ls → (∀ i, i < k → (vsTo s 12).getD i 0 = (vsTo t 12).getD i 0) → (vsTo s 12).getD k 0 ≤ (vsTo t 12).getD k 0) := ⟨fun k hk he => by
      refine Nat.le_of_not_lt fun hlt' => ?_
      exact lex_asymm (first_diff (s := t) (t := s) (by rw [show (vsTo t 12).length = lt from hlt]; omega) (by rw [show (vsTo s 12).length = ls from hls]; exact hk) (fun i hi => (he i hi).symm) hlt') (.inl hx)⟩
    have hend : Keep (¬ (∀ i, i < ls → (vsTo s 12).getD i 0 = (vsTo t 12).getD i 0)) := ⟨fun he => by
      obtain ⟨u, hu, g1, g2, g3⟩ := hx
      obtain ⟨i, hi, hxi⟩ := vs_ix hu g1
      rw [show (vsTo s 12).length = ls from hls] at hi
      have := (vs_at (s := t) (i := i) (by rw [show (vsTo t 12).length = lt from hlt]; omega)).2
      rw [← he i hi, hxi, g2] at this; cases this⟩
    subst hne
    have hk2 := Keep.mk (And.intro hls hlt)
    clear h hx hls hlt
    obtain ⟨l, hl⟩ : ∃ l, lt = l := ⟨_, rfl⟩
    subst hl
    obtain ⟨l, hl⟩ : ∃ l, lt = l := ⟨_, rfl⟩
    rw [hl] at q28a q28b key hk2 h12 hend
    clear hl
    go_enter Try.func56, Try.ntmps56
    go_wp2_with (first
      | (go_at_call 28; (with_reducible refine (q28a _).mono ?_); rintro e w1 ⟨X, cx, rfl, hi1, hb1⟩
         have hk1 := Keep.mk (And.intro hi1 hb1)
         clear hi1 hb1 q28a)
      | (go_at_call 28; (with_reducible refine (q28b _).mono ?_); rintro e w2 ⟨Y, cy, rfl, hi2, hb2⟩
         have hk3 := Keep.mk (And.intro (intsO_below hk1.out.1 hb2) (And.intro hi2 (hk1.out.2.trans (hb2.mono hk1.out.2.size))))
         clear hi2 hb2 q28b hk1))
    go_loopw [7] (fun i wr => ∃ k : Nat, k ≤ l ∧ i = .int .i64 k ∧ Keep ((∀ i, i < k → (vsTo s 12).getD i 0 = (vsTo t 12).getD i 0) ∧ IntsO wr (.slice X l cx) (zsOf s) ∧ IntsO wr (.slice Y l cy) (zsOf t) ∧ Below w.heap.size w wr)) (fun i _ => l - (intOf i).toNat)
    case atStart => exact ⟨0, by omega, rfl, ⟨fun i hi => by omega, hk3.out⟩⟩
    case round =>
      obtain ⟨k, hk, rfl, hI⟩ := hrel
      by_cases hlt : k < l
      · have hw1 : IntKind.i64.wrap ((k : Int) + 1) = (k : Int) + 1 := IntWalk.i64_in _ (by omega)
        have hlt' : (k : Int) < (l : Int) := by omega
        have hk0 : ¬ (k : Int) < 0 := by omega
        have hks : k < (vsTo s 12).length := by rw [show (vsTo s 12).length = l from hk2.out.1]; exact hlt
        have hkt : k < (vsTo t 12).length := by rw [show (vsTo t 12).length = l from hk2.out.2]; exact hlt
        obtain ⟨A, cap, hv, hcx⟩ := hI.out.2.1
        injection hv with h1 h2 h3; subst h1; subst h3; clear h2
        obtain ⟨gx, ox, rfl, cx0⟩ := hcx k (by rw [zsOf_len]; exact hks)
        obtain ⟨A, cap, hv, hcy⟩ := hI.out.2.2.1
        injection hv with h1 h2 h3; subst h1; subst h3; clear h2
        obtain ⟨gy, oy, rfl, cy0⟩ := hcy k (by rw [zsOf_len]; exact hkt)
        rw [zs_getD hks] at cx0
        rw [zs_getD hkt] at cy0
        have hle := key.out k hlt hI.out.1
        obtain ⟨x, hx⟩ : ∃ x, (vsTo s 12).getD k 0 = x := ⟨_, rfl⟩
        obtain ⟨y, hy⟩ : ∃ y, (vsTo t 12).getD k 0 = y := ⟨_, rfl⟩
        rw [hx] at cx0 hle
        rw [hy] at cy0 hle
        have hxy := Keep.mk (And.intro hx hy)
        clear hx hy hcx hcy hks hkt
        go_wp2
        refine (wpIn_wide (n := 0)).1 ?_
        refine Many.region_many (Cq wr) hmx (by kernel_rfl) (fun s s' W' h hc => hc) (fun s hs => ⟨1, rfl⟩) ?_
        refine Many.lex_want (by rfl) (rd (v := .slice (some ⟨gx, ox, none⟩) l cx) (fun q => by (go_simp; (try rfl); (try (intro hneg; omega))))) ?_
        simp only [Act.put, List.setIfInBounds_toArray, List.set_cons_succ, List.set_cons_zero, Nat.reduceAdd]
        refine Many.lex_want (by rfl) (rd (v := .int .i64 k) (fun q => by (go_simp; (try rfl); (try (intro hneg; omega))))) ?_
        simp only [Act.put, List.setIfInBounds_toArray, List.set_cons_succ, List.set_cons_zero, Nat.reduceAdd]
        refine Many.lex_want (by rfl) (rd (v := .pointer (some ⟨gx, ox + k, none⟩)) (fun q => by (go_simp; (try rfl); (try (intro hneg; omega))))) ?_
        simp only [Act.put, List.setIfInBounds_toArray, List.set_cons_succ, List.set_cons_zero, Nat.reduceAdd]
        refine Many.lex_want (by rfl) (rd (v := .int .i64 x) (fun q => by (go_simp; (try rfl); (try (intro hneg; omega))))) ?_
        simp only [Act.put, List.setIfInBounds_toArray, List.set_cons_succ, List.set_cons_zero, Nat.reduceAdd]
        refine Many.lex_want (by rfl) (rd (v := .slice (some ⟨gy, oy, none⟩) l cy) (fun q => by (go_simp; (try rfl); (try (intro hneg; omega))))) ?_
        simp only [Act.put, List.setIfInBounds_toArray, List.set_cons_succ, List.set_cons_zero, Nat.reduceAdd]
        refine Many.lex_want (by rfl) (rd (v := .int .i64 k) (fun q => by (go_simp; (try rfl); (try (intro hneg; omega))))) ?_
        simp only [Act.put, List.setIfInBounds_toArray, List.set_cons_succ, List.set_cons_zero, Nat.reduceAdd]
        refine Many.lex_want (by rfl) (rd (v := .pointer (some ⟨gy, oy + k, none⟩)) (fun q => by (go_simp; (try rfl); (try (intro hneg; omega))))) ?_
        simp only [Act.put, List.setIfInBounds_toArray, List.set_cons_succ, List.set_cons_zero, Nat.reduceAdd]
        refine Many.lex_want (by rfl) (rd (v := .int .i64 y) (fun q => by (go_simp; (try rfl); (try (intro hneg; omega))))) ?_
        simp only [Act.put, List.setIfInBounds_toArray, List.set_cons_succ, List.set_cons_zero, Nat.reduceAdd]
        by_cases hxe : x = y
        · subst hxe
          refine Many.lex_want (by rfl) (rd (v := .bool false) (fun q => by (go_simp; (try rfl)))) ?_
          simp only [Act.put, List.setIfInBounds_toArray, List.set_cons_succ, List.set_cons_zero, Nat.reduceAdd]
          refine Many.lex_nil fun s9 W4 hs9 hS4 => ?_
          obtain ⟨q, rfl⟩ := hS4
          have hI2 : Keep ((∀ i, i < k + 1 → (vsTo s 12).getD i 0 = (vsTo t 12).getD i 0) ∧ IntsO (wr.drewN q) _ (zsOf s) ∧ IntsO (wr.drewN q) _ (zsOf t) ∧ Below w.heap.size w (wr.drewN q)) := ⟨fun i hi => by
            rcases Nat.lt_or_ge i k with h | h
            · exact hI.out.1 i h
            · rw [show i = k by omega, hxy.out.1, hxy.out.2], intsO_below hI.out.2.1 (below_dn wr q), intsO_below hI.out.2.2.1 (below_dn wr q), hI.out.2.2.2.trans ((below_dn wr q).mono hI.out.2.2.2.size)⟩
          go_wp2
          exact ⟨⟨k + 1, by omega, by go_num, hI2⟩, by simp [intOf]; omega⟩
        · have hxe' : ¬ (x : Int) = (y : Int) := by omega
          refine Many.lex_want (by rfl) (rd (v := .bool true) (fun q => by (go_simp; (try rfl); (try (intro hneg; omega)); (try omega)))) ?_
          simp only [Act.put, List.setIfInBounds_toArray, List.set_cons_succ, List.set_cons_zero, Nat.reduceAdd]
          refine Many.lex_nil fun s9 W4 hs9 hS4 => ?_
          obtain ⟨q, rfl⟩ := hS4
          obtain ⟨V0, hV0⟩ : ∃ V, wr.drewN q = V := ⟨_, rfl⟩
          have b0 : Below wr.heap.size wr V0 := by rw [← hV0]; exact below_dn wr q
          have cx0 := cell_below cx0 b0
          have cy0 := cell_below cy0 b0
          have hbw := Keep.mk (hI.out.2.2.2.trans (b0.mono hI.out.2.2.2.size))
          have hnlt : (x : Int) < (y : Int) := by omega
          rw [hV0]
          clear hV0 b0 hI
          go_wp2
          refine (wpIn_wide (n := 0)).1 ?_
          refine Many.region_many (Cq V0) hmx (by kernel_rfl) (fun s s' W' h hc => hc) (fun s hs => ⟨1, rfl⟩) ?_
          refine Many.lex_want (by rfl) (rd (v := .slice (some ⟨gx, ox, none⟩) l cx) (fun q => by (go_simp; (try rfl); (try (intro hneg; omega))))) ?_
          simp only [Act.put, List.setIfInBounds_toArray, List.set_cons_succ, List.set_cons_zero, Nat.reduceAdd]
          refine Many.lex_want (by rfl) (rd (v := .int .i64 k) (fun q => by (go_simp; (try rfl); (try (intro hneg; omega))))) ?_
          simp only [Act.put, List.setIfInBounds_toArray, List.set_cons_succ, List.set_cons_zero, Nat.reduceAdd]
          refine Many.lex_want (by rfl) (rd (v := .pointer (some ⟨gx, ox + k, none⟩)) (fun q => by (go_simp; (try rfl); (try (intro hneg; omega))))) ?_
          simp only [Act.put, List.setIfInBounds_toArray, List.set_cons_succ, List.set_cons_zero, Nat.reduceAdd]
          refine Many.lex_want (by rfl) (rd (v := .int .i64 x) (fun q => by (go_simp; (try rfl); (try (intro hneg; omega))))) ?_
          simp only [Act.put, List.setIfInBounds_toArray, List.set_cons_succ, List.set_cons_zero, Nat.reduceAdd]
          refine Many.lex_want (by rfl) (rd (v := .slice (some ⟨gy, oy, none⟩) l cy) (fun q => by (go_simp; (try rfl); (try (intro hneg; omega))))) ?_
          simp only [Act.put, List.setIfInBounds_toArray, List.set_cons_succ, List.set_cons_zero, Nat.reduceAdd]
          refine Many.lex_want (by rfl) (rd (v := .int .i64 k) (fun q => by (go_simp; (try rfl); (try (intro hneg; omega))))) ?_
          simp only [Act.put, List.setIfInBounds_toArray, List.set_cons_succ, List.set_cons_zero, Nat.reduceAdd]
          refine Many.lex_want (by rfl) (rd (v := .pointer (some ⟨gy, oy + k, none⟩)) (fun q => by (go_simp; (try rfl); (try (intro hneg; omega))))) ?_
          simp only [Act.put, List.setIfInBounds_toArray, List.set_cons_succ, List.set_cons_zero, Nat.reduceAdd]
          refine Many.lex_want (by rfl) (rd (v := .int .i64 y) (fun q => by (go_simp; (try rfl); (try (intro hneg; omega))))) ?_
          simp only [Act.put, List.setIfInBounds_toArray, List.set_cons_succ, List.set_cons_zero, Nat.reduceAdd]
          refine Many.lex_want (by rfl) (rd (v := .bool true) (fun q => by (go_simp; (try rfl); (try omega)))) ?_
          simp only [Act.put, List.setIfInBounds_toArray, List.set_cons_succ, List.set_cons_zero, Nat.reduceAdd]
          refine Many.lex_want (by rfl) (rd (v := .bool true) (fun q => by (go_simp; (try rfl)))) ?_
          simp only [Act.put, List.setIfInBounds_toArray, List.set_cons_succ, List.set_cons_zero, Nat.reduceAdd]
          refine Many.lex_nil fun s9 W4 hs9 hS4 => ?_
          obtain ⟨q2, rfl⟩ := hS4
          have hbw2 := Keep.mk (hbw.out.trans ((below_dn V0 q2).mono hbw.out.size))
          go_wp2
          refine bodyPost_ret (v := .bool true) (by simp [results, Try.results56, go_sem]) rfl ?_
          exact ⟨rfl, hbw2.out⟩
      · obtain rfl : k = l := by omega
        exact absurd hI.out.1 hend.out
  · have hn1 : ¬ (ls : Int) = (lt : Int) := by omega
    have hn2 : (ls : Int) < (lt : Int) := by omega
    clear h hne hls hlt
    go_enter Try.func56, Try.ntmps56
    go_wp2_with (first
      | (go_at_call 28; (with_reducible refine (q28a _).mono ?_); rintro e w1 ⟨X, cx, rfl, hi1, hb1⟩
         have hk1 := Keep.mk hb1
         clear hi1 hb1 q28a)
      | (go_at_call 28; (with_reducible refine (q28b _).mono ?_); rintro e w2 ⟨Y, cy, rfl, hi2, hb2⟩
         have hk3 := Keep.mk (hk1.out.trans (hb2.mono hk1.out.size))
         clear hi2 hb2 q28b hk1))
    refine bodyPost_ret (v := .bool true) (by simp [results, Try.results56, go_sem]) rfl ?_
    exact ⟨rfl, hk3.out⟩
end Go.Proofs.Yteekigpdiklppaa
