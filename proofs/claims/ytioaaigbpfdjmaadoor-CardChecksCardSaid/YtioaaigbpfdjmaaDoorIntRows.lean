import Derived.Test.YtioaaigbpfdjmaaDoorReadTable
import Derived.Test.YtioaaigbpfdjmaaDoorInts
set_option linter.unusedSimpArgs false
set_option linter.unusedVariables false
namespace Go.Proofs.YtioaaigbpfdjmaaDoor
open Go Go.Proofs Go.RowKit
def vz (n : Int) : Value := .int .i64 n
/-- A list of ints that came in. -/
def ArgInts (w : World) (v : Value) (zs : List Int) : Prop :=
  (v = .slice none 0 0 ∧ zs = []) ∨ (∃ (a : Addr) (cap : Nat), v = .slice (some a) 0 cap ∧ zs = []) ∨ ∃ (b o cap : Nat), v = .slice (some ⟨b, o, none⟩) zs.length cap ∧ zs.length ≤ cap ∧ cap ≤ maxLen ∧ b < w.heap.size ∧ ∀ i, i < zs.length → w.cell? ⟨b, o + i, none⟩ = some (vz (zs.getD i 0))
/-- A list of ints in memory, from the start of a block on. -/
def IntsAt (w : World) (v : Value) (zs : List Int) : Prop :=
  ∃ A cap, v = .slice A zs.length cap ∧ ∀ k, k < zs.length → ∃ g, A = some ⟨g, 0, none⟩ ∧ w.cell? ⟨g, k, none⟩ = some (.int .i64 (zs.getD k 0))
theorem own_cellz {w : World} {B : Nat} {v : Value} {l : List Int} (h : w.ownsRow B 3 1 v l.length (l.map vz)) : IntsAt w v l := by
  obtain ⟨h1, h2⟩ := h
  rcases h2 with ⟨rfl, h0⟩ | ⟨g, cap, cur, rfl, hg, hh, hn, hcap, hsz, htake⟩
  · exact ⟨none, 0, by rw [h0], fun k hk => by omega⟩
  · refine ⟨_, cap, rfl, fun k hk => ⟨g, rfl, ?_⟩⟩
    have : cur[k]? = some (.int .i64 (l.getD k 0)) := by
      have e : (cur.toList.take (l.length * 1))[k]? = (l.map vz)[k]? := by rw [htake]
      rw [List.getElem?_take_of_lt (by omega), List.getElem?_map, List.getElem?_eq_getElem hk] at e
      rw [← Array.getElem?_toList, e]
      simp [vz, List.getD, hk]
    simp [World.cell?, hh, this]
theorem ints_below {w w' : World} {v : Value} {l : List Int} (h : IntsAt w v l) (b : Below w.heap.size w w') : IntsAt w' v l := by
  obtain ⟨A, cap, hv, hc⟩ := h
  refine ⟨A, cap, hv, fun k hk => ?_⟩
  obtain ⟨g, hA, hg⟩ := hc k hk
  exact ⟨g, hA, cell_below hg b⟩
/-- All numbers are different, and below n. -/
def diffB (zs : List Int) (n : Nat) : Bool := decide (zs.Nodup ∧ ∀ z ∈ zs, 0 ≤ z ∧ z < (n : Int))
theorem getz {zs : List Int} {k : Nat} (h : k < zs.length) : zs.getD k 0 ∈ zs := by
  rw [List.getD_eq_getElem?_getD, List.getElem?_eq_getElem h]; exact List.getElem_mem _
theorem takez {zs : List Int} {k : Nat} (h : k < zs.length) : zs.take (k + 1) = zs.take k ++ [zs.getD k 0] := by
  rw [List.take_add_one, List.getElem?_eq_getElem h, List.getD_eq_getElem?_getD, List.getElem?_eq_getElem h]; rfl
theorem diff_out {zs : List Int} {n k : Nat} (h : k < zs.length) (hz : zs.getD k 0 < 0 ∨ (n : Int) ≤ zs.getD k 0) : diffB zs n = false := by
  unfold diffB
  rw [decide_eq_false_iff_not]
  rintro ⟨_, h2⟩
  have := h2 _ (getz h)
  omega
theorem diff_again {zs : List Int} {n k : Nat} (h : k < zs.length) (hz : zs.getD k 0 ∈ zs.take k) : diffB zs n = false := by
  unfold diffB
  rw [decide_eq_false_iff_not]
  rintro ⟨h1, _⟩
  have h2 : (zs.take (k + 1)).Nodup := h1.sublist (List.take_sublist _ _)
  rw [takez h, List.nodup_append] at h2
  exact h2.2.2 _ hz _ (by simp) rfl
theorem diff_all {zs : List Int} {n : Nat} (h1 : (zs.take zs.length).Nodup) (h2 : ∀ z ∈ zs.take zs.length, 0 ≤ z ∧ z < (n : Int)) : diffB zs n = true := by
  rw [List.take_length] at h1 h2
  unfold diffB
  rw [decide_eq_true_iff]
  exact ⟨h1, h2⟩
theorem nodup_more {zs : List Int} {k : Nat} (h : k < zs.length) (h1 : (zs.take k).Nodup) (h2 : zs.getD k 0 ∉ zs.take k) : (zs.take (k + 1)).Nodup := by
  rw [takez h, List.nodup_append]
  refine ⟨h1, by simp, fun a ha b hb => ?_⟩
  rw [List.mem_singleton] at hb
  rintro rfl
  exact h2 (hb ▸ ha)
theorem bound_more {zs : List Int} {k n : Nat} (h : k < zs.length) (h1 : ∀ z ∈ zs.take k, 0 ≤ z ∧ z < (n : Int)) (h2 : 0 ≤ zs.getD k 0 ∧ zs.getD k 0 < (n : Int)) : ∀ z ∈ zs.take (k + 1), 0 ≤ z ∧ z < (n : Int) := by
  intro z hz
  rw [takez h, List.mem_append, List.mem_singleton] at hz
  rcases hz with hz | rfl
  · exact h1 z hz
  · exact h2
/-- The numbers as natural ones. -/
theorem diff_nats {zs : List Int} {n : Nat} (h : diffB zs n = true) : ∃ os : List Nat, zs = os.map (fun x : Nat => (x : Int)) ∧ os.Nodup ∧ ∀ x ∈ os, x < n := by
  unfold diffB at h
  rw [decide_eq_true_iff] at h
  obtain ⟨h1, h2⟩ := h
  have e : zs = (zs.map Int.toNat).map (fun x : Nat => (x : Int)) := by
    rw [List.map_map]
    conv => lhs; rw [← List.map_id zs]
    apply List.map_congr_left
    intro z hz
    have := h2 z hz
    simp; omega
  refine ⟨zs.map Int.toNat, e, ?_, ?_⟩
  · rw [e] at h1
    exact List.Pairwise.of_map (fun x : Nat => (x : Int)) (fun a b h e => h (by rw [e])) h1
  · intro x hx
    rw [List.mem_map] at hx
    obtain ⟨z, hz, rfl⟩ := hx
    have := h2 z hz
    omega
set_option maxRecDepth 100000 in
theorem distinct_any {v : Value} {zs : List Int} {n : Nat} {w : World} (hv : IntsAt w v zs) (hl : zs.length ≤ 1001) :
    Calls Tryd.prog 50 #[v, .int .i64 n] w fun e w' => e = .returned (.bool (diffB zs n)) ∧ Below w.heap.size w w' := by
  obtain ⟨A, cap, rfl, hc⟩ := hv
  go_enter Tryd.func50, Tryd.ntmps50
  go_wp2
  go_loopw [5] (fun i wr => ∃ k : Nat, k ≤ zs.length ∧ i = .int .i64 k ∧ (zs.take k).Nodup ∧ (∀ z ∈ zs.take k, 0 ≤ z ∧ z < (n : Int)) ∧ Below w.heap.size w wr) (fun i _ => zs.length - (intOf i).toNat)
  case atStart => exact ⟨0, by omega, rfl, by simp, by simp, Below.refl _ _⟩
  case round =>
    obtain ⟨k, hk, rfl, hnd, hall, hbw⟩ := hrel
    by_cases hlt : k < zs.length
    · obtain ⟨g, rfl, hg⟩ := hc k hlt
      have hgr := cell_below hg hbw
      obtain ⟨z, hz⟩ : ∃ z, Keep (zs.getD k 0 = z) := ⟨_, ⟨rfl⟩⟩
      rw [hz.out] at hgr
      by_cases h0 : z < 0
      · have hD : diffB zs n = false := diff_out hlt (.inl (hz.out.symm ▸ h0))
        go_wp2
        go_ret
        exact ⟨by first | rfl | (rw [hD]; rfl), hbw⟩
      · by_cases hn : (n : Int) ≤ z
        · have hD : diffB zs n = false := diff_out hlt (.inr (hz.out.symm ▸ hn))
          go_wp2
          go_ret
          exact ⟨by first | rfl | (rw [hD]; rfl), hbw⟩
        · have hzin : 0 ≤ zs.getD k 0 ∧ zs.getD k 0 < (n : Int) := by rw [hz.out]; omega
          have hzk : Keep (0 ≤ zs.getD k 0 ∧ zs.getD k 0 < (n : Int)) := ⟨hzin⟩
          clear hzin
          go_wp2
          go_loopw [6] (fun i w3 => ∃ j : Nat, j ≤ k ∧ i = .int .i64 j ∧ (zs.getD k 0 ∉ zs.take j) ∧ Below w.heap.size w w3) (fun i _ => k - (intOf i).toNat)
          case atStart => exact ⟨0, by omega, rfl, by simp, hbw⟩
          case round =>
            clear hbw hgr
            obtain ⟨j, hj, rfl, hnot, hbw⟩ := hrel
            by_cases hjk : j < k
            · obtain ⟨g', hg', hgj⟩ := hc j (by omega)
              obtain rfl : g = g' := by injection hg' with h; injection h
              have hgr := cell_below hg hbw
              have hgj := cell_below hgj hbw
              rw [hz.out] at hgr
              obtain ⟨y, hy⟩ : ∃ y, Keep (zs.getD j 0 = y) := ⟨_, ⟨rfl⟩⟩
              rw [hy.out] at hgj
              have hnot' : Keep (zs.getD k 0 ∉ zs.take j) := ⟨hnot⟩
              clear hnot
              by_cases hzy : y = z
              · have hD : diffB zs n = false := diff_again hlt (by
                  rw [hz.out, ← hzy, ← hy.out]
                  have := getz (zs := zs.take k) (k := j) (by rw [List.length_take]; omega)
                  rw [List.getD_eq_getElem?_getD, List.getElem?_take_of_lt hjk, ← List.getD_eq_getElem?_getD] at this
                  exact this)
                go_wp2
                go_quiet (fail)
                go_wp2
                go_ret
                exact ⟨by first | rfl | (rw [hD]; rfl), below_drewN hbw _⟩
              · go_wp2
                go_quiet (fail)
                go_wp2
                refine ⟨⟨j + 1, by omega, by go_num, ?_, below_drewN hbw _⟩, by simp [intOf]; omega⟩
                rw [takez (by omega), List.mem_append, not_or]
                refine ⟨hnot'.out, ?_⟩
                rw [List.mem_singleton, hz.out, hy.out]
                exact fun h => hzy h.symm
            · have : j = k := by omega
              subst this
              go_wp2
              exact ⟨⟨j + 1, by omega, by go_num, nodup_more hlt hnd hnot, bound_more hlt hall hzk.out, hbw⟩, by simp [intOf]; omega⟩
    · have : k = zs.length := by omega
      subst this
      have hD := diff_all hnd hall
      go_wp2
      go_ret
      exact ⟨by first | rfl | (rw [hD]; rfl), hbw⟩
theorem ty137 : Tryd.prog.underlying 137 = some (.array 5 4) := by kernel_rfl
set_option maxRecDepth 100000 in
theorem different_any {v : Value} {zs : List Int} {n : Nat} {w : World} (h5 : n ≤ 5) (hv : IntsAt w v zs) (hl : zs.length ≤ 1001) :
    Calls Tryd.prog 89 #[v, .int .i64 n] w fun e w' => e = .returned (.bool (diffB zs n)) ∧ Below w.heap.size w w' := by
  obtain ⟨A, cap, rfl, hc⟩ := hv
  go_enter Tryd.func89, Tryd.ntmps89
  go_wp2
  go_loopw [10] (fun i wr => ∃ k : Nat, k ≤ zs.length ∧ i = .int .i64 k ∧ (zs.take k).Nodup ∧ (∀ z ∈ zs.take k, 0 ≤ z ∧ z < (n : Int)) ∧ Below w.heap.size w wr ∧
    (∀ j, j < 5 → wr.cell? ⟨w.heap.size, j, none⟩ = some (.bool (decide ((j : Int) ∈ zs.take k))) ∧ wr.frozen? ⟨w.heap.size, j, none⟩ = false)) (fun i _ => zs.length - (intOf i).toNat)
  case atStart =>
    refine ⟨0, by omega, rfl, by simp, by simp, (Below.refl _ _).alloc (Nat.le_refl _) _, fun j hj => ?_⟩
    have : j = 0 ∨ j = 1 ∨ j = 2 ∨ j = 3 ∨ j = 4 := by omega
    rcases this with h | h | h | h | h <;> subst h <;> constructor <;> go_simp
  case round =>
    obtain ⟨k, hk, rfl, hnd, hall, hbw, hcells⟩ := hrel
    by_cases hlt : k < zs.length
    · obtain ⟨g, rfl, hg⟩ := hc k hlt
      have hgr := cell_below hg hbw
      obtain ⟨z, hz⟩ : ∃ z, Keep (zs.getD k 0 = z) := ⟨_, ⟨rfl⟩⟩
      rw [hz.out] at hgr
      by_cases h0 : z < 0
      · have hD : diffB zs n = false := diff_out hlt (.inl (hz.out.symm ▸ h0))
        clear hcells
        go_wp2
        go_ret
        exact ⟨by first | rfl | (rw [hD]; rfl), hbw⟩
      · by_cases hn : (n : Int) ≤ z
        · have hD : diffB zs n = false := diff_out hlt (.inr (hz.out.symm ▸ hn))
          clear hcells
          go_wp2
          go_ret
          exact ⟨by first | rfl | (rw [hD]; rfl), hbw⟩
        · obtain ⟨q, rfl⟩ : ∃ q : Nat, z = (q : Int) := ⟨z.toNat, by omega⟩
          obtain ⟨hq1, hq2⟩ := hcells q (by omega)
          have hq5 : q < 5 := by omega
          have hzk : Keep (0 ≤ zs.getD k 0 ∧ zs.getD k 0 < (n : Int)) := ⟨by rw [hz.out]; omega⟩
          by_cases hin : (q : Int) ∈ zs.take k
          · have hD : diffB zs n = false := diff_again hlt (by rw [hz.out]; exact hin)
            rw [decide_eq_true hin] at hq1
            clear hcells
            go_wp2
            go_ret
            exact ⟨by first | rfl | (rw [hD]; rfl), hbw⟩
          · rw [decide_eq_false hin] at hq1
            have hcells' : Keep (∀ j, j < 5 → wr.cell? ⟨w.heap.size, j, none⟩ = some (.bool (decide ((j : Int) ∈ zs.take k))) ∧ wr.frozen? ⟨w.heap.size, j, none⟩ = false) := ⟨hcells⟩
            clear hcells
            have hin' : Keep ((q : Int) ∉ zs.take k) := ⟨hin⟩
            clear hin
            go_wp2
            refine ⟨⟨k + 1, by omega, by go_num, nodup_more hlt hnd (by rw [hz.out]; exact hin'.out), bound_more hlt hall hzk.out, below_set hbw (by omega) _, fun j hj => ?_⟩, by simp [intOf]; omega⟩
            obtain ⟨c1, c2⟩ := hcells'.out j hj
            by_cases hjq : j = q
            · subst hjq
              refine ⟨?_, by go_simp⟩
              have e : decide ((j : Int) ∈ zs.take (k + 1)) = true := by
                rw [decide_eq_true_iff, takez hlt, hz.out]; simp
              rw [e]
              go_simp
            · have e : decide ((j : Int) ∈ zs.take (k + 1)) = decide ((j : Int) ∈ zs.take k) := by
                have : ¬ (j : Int) = (q : Int) := by omega
                rw [takez hlt, hz.out]; simp [this]
              rw [e]
              have hne : ¬ q = j := fun h => hjq h.symm
              constructor
              · go_simp
              · go_simp
    · have : k = zs.length := by omega
      subst this
      have hD := diff_all hnd hall
      clear hcells
      go_wp2
      go_ret
      exact ⟨by first | rfl | (rw [hD]; rfl), hbw⟩
end Go.Proofs.YtioaaigbpfdjmaaDoor
