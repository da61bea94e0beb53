import Derived.Test.YtioaaigbpfdjmaaDoorOneOnly
import Derived.Test.YtioaaigbpfdjmaaDoorContains
import Derived.Test.YtioaaigbpfdjmaaDoorSumText
set_option linter.unusedSimpArgs false
set_option linter.unusedVariables false
namespace Go.Proofs.YtioaaigbpfdjmaaDoor
open Go Go.Proofs Go.RowKit
/-- A list of strings in memory. -/
def TextsAt (w : World) (v : Value) (ls : List ByteArray) : Prop :=
  ∃ A cap, v = .slice A ls.length cap ∧ ∀ k, k < ls.length → ∃ g o, A = some ⟨g, o, none⟩ ∧ w.cell? ⟨g, o + k, none⟩ = some (.string (ls.getD k ByteArray.empty))
theorem texts_below {w w' : World} {v : Value} {ls : List ByteArray} (h : TextsAt w v ls) (b : Below w.heap.size w w') : TextsAt w' v ls := by
  obtain ⟨A, cap, hv, hc⟩ := h
  refine ⟨A, cap, hv, fun k hk => ?_⟩
  obtain ⟨g, o, hA, hg⟩ := hc k hk
  exact ⟨g, o, hA, cell_below hg b⟩
def inAny (ls : List ByteArray) (p : Nat) : Bool := ls.any fun c => inC c p
/-- The point p is as a cover asks. -/
def covAt (f : ByteArray) (ls : List ByteArray) (p : Nat) : Bool := !((f.data.toList.getD p 0 == 48 && inAny ls p) || (f.data.toList.getD p 0 == 49 && !inAny ls p))
def covB (f : ByteArray) (ls : List ByteArray) : Bool := (List.range f.size).all (covAt f ls)
theorem getx {ls : List ByteArray} {k : Nat} (h : k < ls.length) : ls.getD k ByteArray.empty ∈ ls := by
  rw [List.getD_eq_getElem?_getD, List.getElem?_eq_getElem h]; exact List.getElem_mem _
theorem takex {ls : List ByteArray} {k : Nat} (h : k < ls.length) : ls.take (k + 1) = ls.take k ++ [ls.getD k ByteArray.empty] := by
  rw [List.take_add_one, List.getElem?_eq_getElem h, List.getD_eq_getElem?_getD, List.getElem?_eq_getElem h]; rfl
set_option maxHeartbeats 1000000 in
set_option maxRecDepth 100000 in
theorem refCovers_any {f : ByteArray} {v : Value} {ls : List ByteArray} {w : World} (h32 : f.size ≤ 40) (hl : ls.length ≤ 40) (hv : TextsAt w v ls) (hok : Keep (∀ c ∈ ls, c.size ≤ 40 ∧ okCube c = true)) :
    Calls Tryd.prog 29 #[.string f, v] w fun e w' => e = .returned (.bool (covB f ls)) ∧ Below w.heap.size w w' := by
  obtain ⟨r, hr⟩ : ∃ r, Keep (covB f ls = r) := ⟨_, ⟨rfl⟩⟩
  rw [hr.out]
  obtain ⟨A, cap, rfl, hc⟩ := hv
  have hck := Keep.mk hc
  clear hc
  go_enter Tryd.func29, Tryd.ntmps29
  go_wp2
  go_loopw [5] (fun i wr => ∃ p : Nat, p ≤ f.size ∧ i = .int .i64 p ∧ Keep ((List.range p).all (covAt f ls) = true) ∧ Below w.heap.size w wr) (fun i _ => f.size - (intOf i).toNat)
  case atStart => exact ⟨0, by omega, rfl, ⟨rfl⟩, Below.refl _ _⟩
  case round =>
    obtain ⟨p, hp, rfl, hall, hbw⟩ := hrel
    by_cases hpf : p < f.size
    · go_wp2
      go_loopw [6, 7] (fun a i w3 => ∃ k : Nat, k ≤ ls.length ∧ i = .int .i64 k ∧ a = .bool (inAny (ls.take k) p) ∧ Below w.heap.size w w3) (fun _ i _ => ls.length - (intOf i).toNat)
      case atStart => exact ⟨0, by omega, rfl, by simp [inAny], hbw⟩
      case round =>
        clear hbw
        obtain ⟨k, hk, rfl, rfl, hbw⟩ := hrel
        by_cases hkl : k < ls.length
        · obtain ⟨g, o, rfl, hg⟩ := hck.out k hkl
          have hgr := cell_below hg hbw
          have hbz : w.heap.size ≤ wr.heap.size := hbw.size
          obtain ⟨hx1, hx2⟩ := hok.out _ (getx hkl)
          have hpush : Keep (inAny (ls.take (k + 1)) p = (inAny (ls.take k) p || inC (ls.getD k ByteArray.empty) p)) := ⟨by rw [takex hkl]; simp [inAny]⟩
          generalize ls.getD k ByteArray.empty = x at hgr hx1 hx2 hpush
          have hx2k := Keep.mk hx2
          clear hx2 hg
          cases hin : inAny (ls.take k) p
          · rw [hin] at hpush
            clear hin
            go_wp2_with (go_at_call 66; refine (contains_any x p _ hx1 (by omega) hx2k.out).mono ?_; rintro e w5 ⟨rfl, hb5⟩
                         have hb6 := below_trans hbw hb5 hbz
                         clear hb5)
            exact ⟨⟨k + 1, by omega, by go_num, by rw [hpush.out]; rfl, hb6⟩, by simp [intOf]; omega⟩
          · rw [hin] at hpush
            clear hin
            go_wp2
            exact ⟨⟨k + 1, by omega, by go_num, by rw [hpush.out]; rfl, hbw⟩, by simp [intOf]; omega⟩
        · have : k = ls.length := by omega
          subst this
          rw [List.take_length]
          have hcv : Keep (covAt f ls p = !((f[p] == 48 && inAny ls p) || (f[p] == 49 && !inAny ls p))) := ⟨by unfold covAt; rw [getD_at hpf]⟩
          have e48 : ((f[p].toNat : Int) == 48) = (f[p] == 48) := by
            rw [Bool.eq_iff_iff, beq_iff_eq, beq_iff_eq]
            exact ⟨fun h => u8_of (n := 48) (by omega) h, fun h => by rw [h]; rfl⟩
          have e49 : ((f[p].toNat : Int) == 49) = (f[p] == 49) := by
            rw [Bool.eq_iff_iff, beq_iff_eq, beq_iff_eq]
            exact ⟨fun h => u8_of (n := 49) (by omega) h, fun h => by rw [h]; rfl⟩
          have hbad : Keep (covAt f ls p = false → r = false) := ⟨fun h => by
            rw [← hr.out]; unfold covB
            rw [List.all_eq_false]
            exact ⟨p, by rw [List.mem_range]; exact hpf, by rw [h]; simp⟩⟩
          have hgood : Keep (covAt f ls p = true → (List.range (p + 1)).all (covAt f ls) = true) := ⟨fun h => all_succ hall.out h⟩
          obtain ⟨x, hx⟩ : ∃ x, Keep (inAny ls p = x) := ⟨_, ⟨rfl⟩⟩
          obtain ⟨y, hy⟩ : ∃ x, Keep ((f[p] == 48) = x) := ⟨_, ⟨rfl⟩⟩
          obtain ⟨z, hz⟩ : ∃ x, Keep ((f[p] == 49) = x) := ⟨_, ⟨rfl⟩⟩
          rw [hx.out, hy.out, hz.out] at hcv
          rw [hx.out]
          rw [hy.out] at e48
          rw [hz.out] at e49
          cases x <;> cases y <;> cases z
          all_goals
            first
              | (have hD : r = false := hbad.out hcv.out
                 subst hD
                 clear hgood hbad
                 go_wp2
                 go_ret
                 exact ⟨rfl, hbw⟩)
              | (have hnext := Keep.mk (hgood.out hcv.out)
                 clear hgood hbad
                 go_wp2
                 exact ⟨⟨p + 1, by omega, by go_num, hnext, hbw⟩, by simp [intOf]; omega⟩)
    · have : p = f.size := by omega
      subst this
      have hD : r = true := by rw [← hr.out]; exact hall.out
      subst hD
      go_wp2
      go_ret
      exact ⟨rfl, hbw⟩
end Go.Proofs.YtioaaigbpfdjmaaDoor
