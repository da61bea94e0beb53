import Derived.Test.YteekigpdiklppaaWAll
set_option linter.unusedSimpArgs false
set_option linter.unusedVariables false
namespace Go.Proofs.Yteekigpdiklppaa
open Go Go.Proofs Go.RowKit Go.Seq
set_option maxHeartbeats 1000000 in
set_option maxRecDepth 100000 in
theorem eq49 (F G : Nat → Bool) (w : World) : (Op.equalIn 10000 79 (.agg (sc F)) (.agg (sc G))).run Try.prog w = .ok ((List.range 12).all fun k => F k == G k) w := by
  have u4 := Try.underlying4
  have a4 := Try.isAgg4
  have z4 := Try.sizeOf4
  unfold sc
  rw [show (10000 : Nat) = 9999 + 1 from rfl, Op.equalIn]
  simp only [Sem.run_bind, run_underlying Try.underlying79, Result.andThen_ok]
  simp only [Std.Legacy.Range.forIn_eq_forIn_range', Std.Legacy.Range.size, Nat.sub_zero, Nat.add_sub_cancel, Nat.div_one, List.range'_succ, List.range'_zero, List.forIn_cons, List.forIn_nil]
  by_cases h0 : F 0 = G 0
  rotate_left
  · have e : (List.range 12).all (fun k => F k == G k) = false := by
      rw [List.all_eq_false]; exact ⟨0, by simp, by simp [h0]⟩
    rw [e]
    go_simp
    try simp [h0]
  by_cases h1 : F 1 = G 1
  rotate_left
  · have e : (List.range 12).all (fun k => F k == G k) = false := by
      rw [List.all_eq_false]; exact ⟨1, by simp, by simp [h1]⟩
    rw [e]
    go_simp
    try simp [h0, h1]
  by_cases h2 : F 2 = G 2
  rotate_left
  · have e : (List.range 12).all (fun k => F k == G k) = false := by
      rw [List.all_eq_false]; exact ⟨2, by simp, by simp [h2]⟩
    rw [e]
    go_simp
    try simp [h0, h1, h2]
  by_cases h3 : F 3 = G 3
  rotate_left
  · have e : (List.range 12).all (fun k => F k == G k) = false := by
      rw [List.all_eq_false]; exact ⟨3, by simp, by simp [h3]⟩
    rw [e]
    go_simp
    try simp [h0, h1, h2, h3]
  by_cases h4 : F 4 = G 4
  rotate_left
  · have e : (List.range 12).all (fun k => F k == G k) = false := by
      rw [List.all_eq_false]; exact ⟨4, by simp, by simp [h4]⟩
    rw [e]
    go_simp
    try simp [h0, h1, h2, h3, h4]
  by_cases h5 : F 5 = G 5
  rotate_left
  · have e : (List.range 12).all (fun k => F k == G k) = false := by
      rw [List.all_eq_false]; exact ⟨5, by simp, by simp [h5]⟩
    rw [e]
    go_simp
    try simp [h0, h1, h2, h3, h4, h5]
  by_cases h6 : F 6 = G 6
  rotate_left
  · have e : (List.range 12).all (fun k => F k == G k) = false := by
      rw [List.all_eq_false]; exact ⟨6, by simp, by simp [h6]⟩
    rw [e]
    go_simp
    try simp [h0, h1, h2, h3, h4, h5, h6]
  by_cases h7 : F 7 = G 7
  rotate_left
  · have e : (List.range 12).all (fun k => F k == G k) = false := by
      rw [List.all_eq_false]; exact ⟨7, by simp, by simp [h7]⟩
    rw [e]
    go_simp
    try simp [h0, h1, h2, h3, h4, h5, h6, h7]
  by_cases h8 : F 8 = G 8
  rotate_left
  · have e : (List.range 12).all (fun k => F k == G k) = false := by
      rw [List.all_eq_false]; exact ⟨8, by simp, by simp [h8]⟩
    rw [e]
    go_simp
    try simp [h0, h1, h2, h3, h4, h5, h6, h7, h8]
  by_cases h9 : F 9 = G 9
  rotate_left
  · have e : (List.range 12).all (fun k => F k == G k) = false := by
      rw [List.all_eq_false]; exact ⟨9, by simp, by simp [h9]⟩
    rw [e]
    go_simp
    try simp [h0, h1, h2, h3, h4, h5, h6, h7, h8, h9]
  by_cases h10 : F 10 = G 10
  rotate_left
  · have e : (List.range 12).all (fun k => F k == G k) = false := by
      rw [List.all_eq_false]; exact ⟨10, by simp, by simp [h10]⟩
    rw [e]
    go_simp
    try simp [h0, h1, h2, h3, h4, h5, h6, h7, h8, h9, h10]
  by_cases h11 : F 11 = G 11
  rotate_left
  · have e : (List.range 12).all (fun k => F k == G k) = false := by
      rw [List.all_eq_false]; exact ⟨11, by simp, by simp [h11]⟩
    rw [e]
    go_simp
    try simp [h0, h1, h2, h3, h4, h5, h6, h7, h8, h9, h10, h11]
  have e : (List.range 12).all (fun k => F k == G k) = true := by
    rw [List.all_eq_true]; intro k hk
    have hk : k < 12 := by simpa using hk
    match k, hk with
    | 0, _ => simp [h0]
    | 1, _ => simp [h1]
    | 2, _ => simp [h2]
    | 3, _ => simp [h3]
    | 4, _ => simp [h4]
    | 5, _ => simp [h5]
    | 6, _ => simp [h6]
    | 7, _ => simp [h7]
    | 8, _ => simp [h8]
    | 9, _ => simp [h9]
    | 10, _ => simp [h10]
    | 11, _ => simp [h11]
  rw [e]
  go_simp
  try simp [h0, h1, h2, h3, h4, h5, h6, h7, h8, h9, h10, h11]
end Go.Proofs.Yteekigpdiklppaa
