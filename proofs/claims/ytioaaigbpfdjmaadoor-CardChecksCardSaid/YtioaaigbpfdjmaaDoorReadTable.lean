import Derived.Test.YtioaaigbpfdjmaaDoorVars
import Derived.Test.YtioaaigbpfdjmaaDoorReadCube
import Derived.Deep.RegionWith
set_option linter.unusedSimpArgs false
set_option linter.unusedVariables false
namespace Go.Proofs.YtioaaigbpfdjmaaDoor
open Go Go.Proofs Go.RowKit
/-- The points below k with one character. -/
def charB (s : ByteArray) (c : UInt8) (Z k : Nat) : Prop := ∀ i, Z.testBit i = (decide (i < k) && s.data.toList.getD i 0 == c)
theorem char_yes {s : ByteArray} {c : UInt8} {V k : Nat} (h : charB s c V k) (hc : (s.data.toList.getD k 0 == c) = true) : charB s c (V ||| 2 ^ k) (k + 1) := by
  intro i
  rw [Nat.testBit_or, h, Nat.testBit_two_pow]
  by_cases hk : k = i
  · subst hk; simp only [decide_true, Bool.or_true, hc]; simp
  · have e : (i < k + 1) = (i < k) := by apply propext; omega
    simp [hk, e]
theorem char_no {s : ByteArray} {c : UInt8} {V k : Nat} (h : charB s c V k) (hc : (s.data.toList.getD k 0 == c) = false) : charB s c V (k + 1) := by
  intro i
  rw [h]
  by_cases hk : i = k
  · subst hk; rw [hc]; simp
  · have e : (i < k + 1) = (i < k) := by apply propext; omega
    simp [e]
theorem no_vars {n v : Nat} (h1 : 1 ≤ v) (h5 : v ≤ 5) (hlo : v = 1 ∨ 2 ^ (v - 1) < n) (hhi : v = 5 ∨ n ≤ 2 ^ v) (hne : n ≠ 2 ^ v) : varsN n = 0 := by
  have hv : v = 1 ∨ v = 2 ∨ v = 3 ∨ v = 4 ∨ v = 5 := by omega
  unfold varsN
  rcases hv with h | h | h | h | h <;> subst h <;> simp at hlo hhi hne <;> (repeat' split) <;> omega
theorem or_pow (a k : Nat) (ha : a < 4294967296) (hk : k < 32) : bits .or .u32 (a : Int) (2 ^ k % 4294967296) = ((a ||| 2 ^ k : Nat) : Int) ∧ a ||| 2 ^ k < 4294967296 := set_bit a k ha hk
set_option maxRecDepth 100000 in
theorem single_any (p : Nat) (hp : p < 32) (w : World) :
    Calls Tryd.prog 93 #[.int .i64 p] w fun e w' => e = .returned (.int .u32 (2 ^ p % 4294967296)) ∧ w' = w := by
  have hq : 2 ^ p < 2 ^ 32 := Nat.pow_lt_pow_right (by decide) hp
  have e : ((2 : Int) ^ p % 4294967296) = 2 ^ p := by
    have : ((2 : Int) ^ p) = ((2 ^ p : Nat) : Int) := by push_cast; rfl
    rw [this]
    generalize 2 ^ p = q at hq
    omega
  rw [e]
  go_enter Tryd.func93, Tryd.ntmps93
  go_wp2
  go_ret
  exact ⟨by simp [e], rfl⟩
/-- What a table that was read holds. -/
def TablePost (s : ByteArray) (e : Ending) : Prop :=
  ∃ O Z : Nat, O < 4294967296 ∧ Z < 4294967296 ∧ e = .returned (.tuple #[.agg #[.int .i64 (varsOf s : Nat), .int .u32 O, .int .u32 Z], .bool (decide (varsOf s ≠ 0))]) ∧ (varsOf s ≠ 0 → charB s 49 O s.size ∧ charB s 48 Z s.size)
set_option maxHeartbeats 4000000 in
set_option maxRecDepth 100000 in
theorem table_any (s : ByteArray) (h40 : s.size ≤ 40) (w : World) :
    Calls Tryd.prog 58 #[.string s] w fun e w' => TablePost s e ∧ Below w.heap.size w w' := by
  go_enter Tryd.func58, Tryd.ntmps58
  go_wp2
  go_loopw [] (fun wr => ∃ v : Nat, 1 ≤ v ∧ v ≤ 5 ∧ (v = 1 ∨ 2 ^ (v - 1) < s.size) ∧ Below w.heap.size w wr ∧
     wr.cell? ⟨w.heap.size, 0, none⟩ = some (.int .i64 0) ∧ wr.cell? ⟨w.heap.size, 1, none⟩ = some (.int .u32 0) ∧ wr.cell? ⟨w.heap.size, 2, none⟩ = some (.int .u32 0) ∧ wr.frozen? ⟨w.heap.size, 0, none⟩ = false ∧ wr.frozen? ⟨w.heap.size, 1, none⟩ = false ∧ wr.frozen? ⟨w.heap.size, 2, none⟩ = false ∧
     wr.cell? ⟨w.heap.size + 1, 0, none⟩ = some (.int .i64 v) ∧ wr.cell? ⟨w.heap.size + 1, 1, none⟩ = some (.int .u32 0) ∧ wr.cell? ⟨w.heap.size + 1, 2, none⟩ = some (.int .u32 0) ∧ wr.frozen? ⟨w.heap.size + 1, 0, none⟩ = false ∧ wr.frozen? ⟨w.heap.size + 1, 1, none⟩ = false ∧ wr.frozen? ⟨w.heap.size + 1, 2, none⟩ = false)
     (fun wr => 5 - (intOf ((wr.cell? ⟨w.heap.size + 1, 0, none⟩).getD undef)).toNat)
  case atStart =>
    refine ⟨1, by omega, by omega, .inl rfl, ((Below.refl _ _).alloc (Nat.le_refl _) _).alloc (by simp) _, ?_, ?_, ?_, ?_, ?_, ?_, ?_, ?_, ?_, ?_, ?_, ?_⟩ <;> go_simp
  case round =>
    obtain ⟨v, h1, h5, hlo, hbw, c0, c1, c2, z0, z1, z2, d0, d1, d2, y0, y1, y2⟩ := hrel
    have hw := wrap_pow (k := v) (by omega)
    obtain ⟨P, hP⟩ : ∃ P, P = 2 ^ v := ⟨_, rfl⟩
    rw [← hP] at hw
    go_wp2
    · have hlt : (2 : Int) ^ v < (s.size : Nat) := by assumption
      have hlt' : 2 ^ v < s.size := by exact_mod_cast hlt
      refine ⟨⟨v + 1, by omega, by omega, .inr hlt', below_set hbw (by omega) _, ?_, ?_, ?_, ?_, ?_, ?_, ?_, ?_, ?_, ?_, ?_, ?_⟩, ?_⟩
      all_goals go_simp
      simp [intOf]
      omega
    · have hne : ((2 : Int) ^ v != (s.size : Nat)) = true := by assumption
      have hhi : v = 5 ∨ s.size ≤ 2 ^ v := by
        first
          | exact .inl (by omega)
          | (have h : ((s.size : Nat) : Int) ≤ 2 ^ v := by assumption
             exact .inr (by exact_mod_cast h))
      have hno : varsN s.size = 0 := no_vars h1 h5 hlo hhi (fun hc => by rw [hc] at hne; simp at hne)
      have hv : varsOf s = 0 := by unfold varsOf; rw [hno]; simp
      refine bodyPost_ret (v := .tuple #[.agg #[.int .i64 ((0 : Nat) : Int), .int .u32 ((0 : Nat) : Int), .int .u32 ((0 : Nat) : Int)], .bool false]) (by rw [results_cell_tmp rfl]; go_simp) rfl ?_
      exact ⟨⟨0, 0, by omega, by omega, by rw [hv]; rfl, fun h => absurd hv h⟩, below_set (below_set (below_set hbw (by omega) _) (by omega) _) (by omega) _⟩
    · have hne : ((2 : Int) ^ v != (s.size : Nat)) = false := by assumption
      first | rw [hne] | skip
      have hsz : Keep (s.size = 2 ^ v) := by
        have h2 : (2 : Int) ^ v = (s.size : Nat) := by simpa using hne
        exact ⟨by exact_mod_cast h2.symm⟩
      clear hne
      go_loopw [31] (fun i w3 => ∃ k O Z : Nat, k ≤ s.size ∧ i = .int .i64 k ∧ O < 4294967296 ∧ Z < 4294967296 ∧ charB s 49 O k ∧ charB s 48 Z k ∧ (s.data.toList.take k).all okB = true ∧ Below w.heap.size w w3 ∧
         w3.cell? ⟨w.heap.size, 0, none⟩ = some (.int .i64 0) ∧ w3.cell? ⟨w.heap.size, 1, none⟩ = some (.int .u32 0) ∧ w3.cell? ⟨w.heap.size, 2, none⟩ = some (.int .u32 0) ∧ w3.frozen? ⟨w.heap.size, 0, none⟩ = false ∧ w3.frozen? ⟨w.heap.size, 1, none⟩ = false ∧ w3.frozen? ⟨w.heap.size, 2, none⟩ = false ∧
         w3.cell? ⟨w.heap.size + 1, 0, none⟩ = some (.int .i64 v) ∧ w3.cell? ⟨w.heap.size + 1, 1, none⟩ = some (.int .u32 O) ∧ w3.cell? ⟨w.heap.size + 1, 2, none⟩ = some (.int .u32 Z) ∧ w3.frozen? ⟨w.heap.size + 1, 0, none⟩ = false ∧ w3.frozen? ⟨w.heap.size + 1, 1, none⟩ = false ∧ w3.frozen? ⟨w.heap.size + 1, 2, none⟩ = false)
         (fun i _ => s.size - (intOf i).toNat)
      case atStart => exact ⟨0, 0, 0, by omega, rfl, by omega, by omega, fun i => by simp, fun i => by simp, by simp, hbw, c0, c1, c2, z0, z1, z2, d0, d1, d2, y0, y1, y2⟩
      case round =>
        clear hbw c0 c1 c2 z0 z1 z2 d0 d1 d2 y0 y1 y2
        obtain ⟨k, O, Z, hk, rfl, hO, hZ, hone, hzero, hall, hbw, c0, c1, c2, z0, z1, z2, d0, d1, d2, y0, y1, y2⟩ := hrel
        by_cases hlt : k < s.size
        · have hget := getD_at hlt
          have hk32 : k < 32 := by
            have h32 : 2 ^ v ≤ 2 ^ 5 := Nat.pow_le_pow_right (by decide) h5
            have := hsz.out
            omega
          obtain ⟨o1, o2⟩ := set_bit O k hO hk32
          obtain ⟨p1, p2⟩ := set_bit Z k hZ hk32
          by_cases h48 : (s[k].toNat : Int) = 48
          · have hch := u8_of (n := 48) (by omega) h48
            go_wp2
            go_region_with (go_at_call 93; refine (single_any k hk32 _).mono ?_; rintro e w5 ⟨rfl, rfl⟩)
            all_goals go_wp2
            all_goals refine ⟨⟨k + 1, O, Z ||| 2 ^ k, by omega, by go_num, hO, p2, char_no hone (by rw [hget, hch]; rfl), char_yes hzero (by rw [hget, hch]; rfl), take_succ_all hlt hall (by rw [hch]; rfl), below_drewN (below_set hbw (by omega) _) 1, ?_, ?_, ?_, ?_, ?_, ?_, ?_, ?_, ?_, ?_, ?_, ?_⟩, by simp [intOf]; omega⟩
            all_goals go_simp
          · by_cases h49 : (s[k].toNat : Int) = 49
            · have hch := u8_of (n := 49) (by omega) h49
              go_wp2
              go_region_with (go_at_call 93; refine (single_any k hk32 _).mono ?_; rintro e w5 ⟨rfl, rfl⟩)
              all_goals go_wp2
              all_goals refine ⟨⟨k + 1, O ||| 2 ^ k, Z, by omega, by go_num, o2, hZ, char_yes hone (by rw [hget, hch]; rfl), char_no hzero (by rw [hget, hch]; rfl), take_succ_all hlt hall (by rw [hch]; rfl), below_drewN (below_set hbw (by omega) _) 1, ?_, ?_, ?_, ?_, ?_, ?_, ?_, ?_, ?_, ?_, ?_, ?_⟩, by simp [intOf]; omega⟩
              all_goals go_simp
            · by_cases h45 : (s[k].toNat : Int) = 45
              · have hch := u8_of (n := 45) (by omega) h45
                go_wp2
                exact ⟨⟨k + 1, O, Z, by omega, by go_num, hO, hZ, char_no hone (by rw [hget, hch]; rfl), char_no hzero (by rw [hget, hch]; rfl), take_succ_all hlt hall (by rw [hch]; rfl), hbw, c0, c1, c2, z0, z1, z2, d0, d1, d2, y0, y1, y2⟩, by simp [intOf]; omega⟩
              · have hOk : okCube s = false := not_all hlt (okB_false h48 h49 h45)
                have hv : varsOf s = 0 := by unfold varsOf; rw [hOk]; rfl
                go_wp2
                refine bodyPost_ret (v := .tuple #[.agg #[.int .i64 ((0 : Nat) : Int), .int .u32 ((0 : Nat) : Int), .int .u32 ((0 : Nat) : Int)], .bool false]) (by rw [results_cell_tmp rfl]; go_simp) rfl ?_
                exact ⟨⟨0, 0, by omega, by omega, by rw [hv]; rfl, fun h => absurd hv h⟩, below_set (below_set (below_set hbw (by omega) _) (by omega) _) (by omega) _⟩
        · have : k = s.size := by omega
          subst this
          have hOk : okCube s = true := by
            have e : s.data.toList.take s.size = s.data.toList := List.take_of_length_le (by simp)
            rw [e] at hall; exact hall
          have hv : varsOf s = v := by unfold varsOf; rw [hOk, hsz.out, vars_pow h1 h5]; rfl
          go_wp2
          refine bodyPost_ret (v := .tuple #[.agg #[.int .i64 v, .int .u32 O, .int .u32 Z], .bool true]) (by rw [results_cell_tmp rfl]; go_simp) rfl ?_
          exact ⟨⟨O, Z, hO, hZ, by rw [hv]; have : v ≠ 0 := by omega
                                   simp [this], fun _ => ⟨hone, hzero⟩⟩, below_set (below_set (below_set hbw (by omega) _) (by omega) _) (by omega) _⟩
    · have hne : ((2 : Int) ^ v != (s.size : Nat)) = true := by assumption
      have hhi : v = 5 ∨ s.size ≤ 2 ^ v := by
        first
          | exact .inl (by omega)
          | (have h : ((s.size : Nat) : Int) ≤ 2 ^ v := by assumption
             exact .inr (by exact_mod_cast h))
      have hno : varsN s.size = 0 := no_vars h1 h5 hlo hhi (fun hc => by rw [hc] at hne; simp at hne)
      have hv : varsOf s = 0 := by unfold varsOf; rw [hno]; simp
      refine bodyPost_ret (v := .tuple #[.agg #[.int .i64 ((0 : Nat) : Int), .int .u32 ((0 : Nat) : Int), .int .u32 ((0 : Nat) : Int)], .bool false]) (by rw [results_cell_tmp rfl]; go_simp) rfl ?_
      exact ⟨⟨0, 0, by omega, by omega, by rw [hv]; rfl, fun h => absurd hv h⟩, below_set (below_set (below_set hbw (by omega) _) (by omega) _) (by omega) _⟩
    · have hne : ((2 : Int) ^ v != (s.size : Nat)) = false := by assumption
      first | rw [hne] | skip
      have hsz : Keep (s.size = 2 ^ v) := by
        have h2 : (2 : Int) ^ v = (s.size : Nat) := by simpa using hne
        exact ⟨by exact_mod_cast h2.symm⟩
      clear hne
      go_loopw [31] (fun i w3 => ∃ k O Z : Nat, k ≤ s.size ∧ i = .int .i64 k ∧ O < 4294967296 ∧ Z < 4294967296 ∧ charB s 49 O k ∧ charB s 48 Z k ∧ (s.data.toList.take k).all okB = true ∧ Below w.heap.size w w3 ∧
         w3.cell? ⟨w.heap.size, 0, none⟩ = some (.int .i64 0) ∧ w3.cell? ⟨w.heap.size, 1, none⟩ = some (.int .u32 0) ∧ w3.cell? ⟨w.heap.size, 2, none⟩ = some (.int .u32 0) ∧ w3.frozen? ⟨w.heap.size, 0, none⟩ = false ∧ w3.frozen? ⟨w.heap.size, 1, none⟩ = false ∧ w3.frozen? ⟨w.heap.size, 2, none⟩ = false ∧
         w3.cell? ⟨w.heap.size + 1, 0, none⟩ = some (.int .i64 v) ∧ w3.cell? ⟨w.heap.size + 1, 1, none⟩ = some (.int .u32 O) ∧ w3.cell? ⟨w.heap.size + 1, 2, none⟩ = some (.int .u32 Z) ∧ w3.frozen? ⟨w.heap.size + 1, 0, none⟩ = false ∧ w3.frozen? ⟨w.heap.size + 1, 1, none⟩ = false ∧ w3.frozen? ⟨w.heap.size + 1, 2, none⟩ = false)
         (fun i _ => s.size - (intOf i).toNat)
      case atStart => exact ⟨0, 0, 0, by omega, rfl, by omega, by omega, fun i => by simp, fun i => by simp, by simp, hbw, c0, c1, c2, z0, z1, z2, d0, d1, d2, y0, y1, y2⟩
      case round =>
        clear hbw c0 c1 c2 z0 z1 z2 d0 d1 d2 y0 y1 y2
        obtain ⟨k, O, Z, hk, rfl, hO, hZ, hone, hzero, hall, hbw, c0, c1, c2, z0, z1, z2, d0, d1, d2, y0, y1, y2⟩ := hrel
        by_cases hlt : k < s.size
        · have hget := getD_at hlt
          have hk32 : k < 32 := by
            have h32 : 2 ^ v ≤ 2 ^ 5 := Nat.pow_le_pow_right (by decide) h5
            have := hsz.out
            omega
          obtain ⟨o1, o2⟩ := set_bit O k hO hk32
          obtain ⟨p1, p2⟩ := set_bit Z k hZ hk32
          by_cases h48 : (s[k].toNat : Int) = 48
          · have hch := u8_of (n := 48) (by omega) h48
            go_wp2
            go_region_with (go_at_call 93; refine (single_any k hk32 _).mono ?_; rintro e w5 ⟨rfl, rfl⟩)
            all_goals go_wp2
            all_goals refine ⟨⟨k + 1, O, Z ||| 2 ^ k, by omega, by go_num, hO, p2, char_no hone (by rw [hget, hch]; rfl), char_yes hzero (by rw [hget, hch]; rfl), take_succ_all hlt hall (by rw [hch]; rfl), below_drewN (below_set hbw (by omega) _) 1, ?_, ?_, ?_, ?_, ?_, ?_, ?_, ?_, ?_, ?_, ?_, ?_⟩, by simp [intOf]; omega⟩
            all_goals go_simp
          · by_cases h49 : (s[k].toNat : Int) = 49
            · have hch := u8_of (n := 49) (by omega) h49
              go_wp2
              go_region_with (go_at_call 93; refine (single_any k hk32 _).mono ?_; rintro e w5 ⟨rfl, rfl⟩)
              all_goals go_wp2
              all_goals refine ⟨⟨k + 1, O ||| 2 ^ k, Z, by omega, by go_num, o2, hZ, char_yes hone (by rw [hget, hch]; rfl), char_no hzero (by rw [hget, hch]; rfl), take_succ_all hlt hall (by rw [hch]; rfl), below_drewN (below_set hbw (by omega) _) 1, ?_, ?_, ?_, ?_, ?_, ?_, ?_, ?_, ?_, ?_, ?_, ?_⟩, by simp [intOf]; omega⟩
              all_goals go_simp
            · by_cases h45 : (s[k].toNat : Int) = 45
              · have hch := u8_of (n := 45) (by omega) h45
                go_wp2
                exact ⟨⟨k + 1, O, Z, by omega, by go_num, hO, hZ, char_no hone (by rw [hget, hch]; rfl), char_no hzero (by rw [hget, hch]; rfl), take_succ_all hlt hall (by rw [hch]; rfl), hbw, c0, c1, c2, z0, z1, z2, d0, d1, d2, y0, y1, y2⟩, by simp [intOf]; omega⟩
              · have hOk : okCube s = false := not_all hlt (okB_false h48 h49 h45)
                have hv : varsOf s = 0 := by unfold varsOf; rw [hOk]; rfl
                go_wp2
                refine bodyPost_ret (v := .tuple #[.agg #[.int .i64 ((0 : Nat) : Int), .int .u32 ((0 : Nat) : Int), .int .u32 ((0 : Nat) : Int)], .bool false]) (by rw [results_cell_tmp rfl]; go_simp) rfl ?_
                exact ⟨⟨0, 0, by omega, by omega, by rw [hv]; rfl, fun h => absurd hv h⟩, below_set (below_set (below_set hbw (by omega) _) (by omega) _) (by omega) _⟩
        · have : k = s.size := by omega
          subst this
          have hOk : okCube s = true := by
            have e : s.data.toList.take s.size = s.data.toList := List.take_of_length_le (by simp)
            rw [e] at hall; exact hall
          have hv : varsOf s = v := by unfold varsOf; rw [hOk, hsz.out, vars_pow h1 h5]; rfl
          go_wp2
          refine bodyPost_ret (v := .tuple #[.agg #[.int .i64 v, .int .u32 O, .int .u32 Z], .bool true]) (by rw [results_cell_tmp rfl]; go_simp) rfl ?_
          exact ⟨⟨O, Z, hO, hZ, by rw [hv]; have : v ≠ 0 := by omega
                                   simp [this], fun _ => ⟨hone, hzero⟩⟩, below_set (below_set (below_set hbw (by omega) _) (by omega) _) (by omega) _⟩
end Go.Proofs.YtioaaigbpfdjmaaDoor
