/-
  CRUN, part J: all that makes or writes memory or calls, together.
-/
import Derived.Test.YtioaaigbpfdjmaaDoorRunI
set_option linter.unusedSimpArgs false
set_option linter.unusedVariables false
namespace Go.CRun
open Go Go.RowKit
section
variable {P : Program} {G : Globs} {N : Nat} {ρ : Ren} {h : Hp} {w : World} {tm : TM} {a : Act}

theorem copyK_ok (I : Inv G N ρ h w) {argTypes args : Array _} {ty dT : Nat} {d d' x x' : Value} (h0 : argTypes[0]? = some dT) (ha0 : args[0]? = some d') (ha1 : args[1]? = some x')
    (hd : VR ρ d d') (hx : VR ρ x x') {K : Value → Hp → Bool} (hk : copyK P G h dT d x K = true) :
    ∃ v' w', (Builtin.copy_ argTypes ty args).run P w = .ok v' w' ∧ Good G N ρ h w K v' w' := by
  unfold copyK at hk
  split at hk
  · rename_i e ad len cap m hU hm
    obtain ⟨ad', cap', rfl, _, hv⟩ := hd.slice_some
    have hlen := lenE_ok (P := P) hx hm w
    split at hk
    · rename_i ie hie
      split at hk
      · rename_i l hl
        obtain ⟨l', hll, hcells⟩ := firstE_ok (P := P) I hx hl
        split at hk
        · have hnil := hll.nil_inv
          subst hnil
          refine ⟨_, w, ?_, ρ, h, _, hk, .flat (n := 0) rfl, I, .refl _ _ _⟩
          simp [Builtin.copy_, h0, ha0, ha1, underlying, hU, hlen, sizeOf, typeInfo, hie, hcells, storeCells, goInt]
        · obtain ⟨w', h', q1, q2, q3, q4⟩ := storeCells_ok (P := P) I hv hll hk
          refine ⟨_, w', ?_, ρ, h', _, q2, .flat (n := 0) rfl, q3, q4⟩
          simp [Builtin.copy_, h0, ha0, ha1, underlying, hU, hlen, sizeOf, typeInfo, hie, hcells, q1, goInt]
      · cases hk
    · cases hk
  · cases hk

theorem mapUpdateK_ok (I : Inv G N ρ h w) {t : TypeId} {x x' k k' v v' : Value} (hx : VR ρ x x') (hk : VR ρ k k') (hv : VR ρ v v') {K : Hp → Bool} (hm : mapUpdateK P h t x k v K = true) :
    ∃ w' h', (Instr.mapUpdate t x' k' v').run P w = .ok () w' ∧ K h' = true ∧ Inv G N ρ h' w' ∧ Ext ρ h w ρ h' w' := by
  unfold mapUpdateK at hm
  split at hm
  case h_2 => cases hm
  rename_i kt et r hU hfk hfv
  have := hk.flat_eq hfk
  subst this
  have := hv.flat_eq hfv
  subst this
  split at hm
  case h_2 => cases hm
  rename_i es clock hr hg
  obtain ⟨p, hp, rfl, hh⟩ := mapAt_ok I hx hr hg
  have hget := run_getObj_map (P := P) hh
  split at hm
  case h_2 => cases hm
  rename_i f hck hfind
  have e1 := pureOf_run hck w
  have e2 := pureOf_run hfind w
  have hset : ∀ (es2 : List MapEntry) (c2 : Nat), ∃ w', (setObj p.blk (.map es2.toArray c2)).run P w = .ok () w' ∧ Inv G N ρ (h.put (r - base) (.map es2 c2)) w' ∧ Ext ρ h w ρ (h.put (r - base) (.map es2 c2)) w' := by
    intro es2 c2
    have hlt : p.blk < w.heap.size := (Array.getElem?_eq_some_iff.1 hh).1
    refine ⟨{ w with heap := w.heap.setIfInBounds p.blk (.map es2.toArray c2) }, by simp [setObj, Sem.run, hh], ?_⟩
    refine I.set hg (by simp) hp (.map es2 c2) (by simp) _ rfl rfl rfl (by simp) ?_ ?_
    · intro k hk
      exact Array.getElem?_setIfInBounds_ne (fun e => hk e.symm)
    · show (w.heap.setIfInBounds p.blk _)[p.blk]? = _
      rw [Array.getElem?_setIfInBounds_self_of_lt hlt]
  split at hm
  · rename_i i u
    split at hm
    · rename_i k2 hks
      rw [Hp.putK_eq] at hm
      have e3 := pureOf_run hks w
      obtain ⟨w', q1, q2, q3⟩ := hset (es.modify i fun e => { e with key := k2, val := v' }) clock
      refine ⟨w', _, ?_, hm, q2, q3⟩
      have e3' : (Instr.keyThatStays ((es.toArray[i]?.map (·.key)).getD k') k').run P w = .ok k2 w := by simpa using e3
      have q1' : (setObj p.blk (.map (es.toArray.modify i fun e => { e with key := k2, val := v' }) clock)).run P w = .ok () w' := by
        rw [← q1]; congr 3; apply Array.ext'; simp
      simp only [Instr.mapUpdate, underlying, Sem.run_bind, run_program, Result.andThen_ok, hU, Sem.run_pure, hget, e1, e2, e3', q1']
    · cases hm
  · rw [Hp.putK_eq] at hm
    obtain ⟨w', q1, q2, q3⟩ := hset (es ++ [{ key := k', val := v', born := clock }]) (clock + 1)
    refine ⟨w', _, ?_, hm, q2, q3⟩
    have q1' : (setObj p.blk (.map (es.toArray.push { key := k', val := v', born := clock }) (clock + 1))).run P w = .ok () w' := by
      rw [← q1]; congr 3; apply Array.ext'; simp
    simp only [Instr.mapUpdate, underlying, Sem.run_bind, run_program, Result.andThen_ok, hU, Sem.run_pure, hget, e1, e2, q1']

theorem rangeK_ok (I : Inv G N ρ h w) {t : TypeId} {x x' : Value} (hx : VR ρ x x') {K : Value → Hp → Bool} (hr : rangeK P h t x K = true) :
    ∃ v' w', (Instr.range t x').run P w = .ok v' w' ∧ Good G N ρ h w K v' w' := by
  unfold rangeK at hr
  split at hr
  · rename_i s hU
    rw [hx.string]
    rw [Hp.pushK_eq] at hr
    obtain ⟨I', E'⟩ := I.alloc (.siter s 0) (.stringIter s 0) 0 (by simp) ⟨by simp, rfl⟩
    refine ⟨_, _, ?_, _, _, _, hr, newPtr_ok 0, I', E'⟩
    simp only [Instr.range, underlying, Sem.run_bind, run_program, Result.andThen_ok, hU, Sem.run_pure, run_newObj]
  · rename_i kt et hU
    rw [hx.nilMap]
    rw [Hp.pushK_eq] at hr
    obtain ⟨I', E'⟩ := I.alloc (.miter none 0 [] 0) (.mapIter none 0 #[] 0) 0 (by simp) ⟨none, by simp, rfl, rfl⟩
    refine ⟨_, _, ?_, _, _, _, hr, newPtr_ok 0, I', E'⟩
    simp only [Instr.range, underlying, Sem.run_bind, run_program, Result.andThen_ok, hU, Sem.run_pure, run_newObj]
  · rename_i kt et m hU
    split at hr
    · rename_i es clock hm hg
      obtain ⟨p, hp, rfl, hh⟩ := mapAt_ok I hx hm hg
      have hget := run_getObj_map (P := P) hh
      rw [Hp.pushK_eq] at hr
      have g1 := blt_false.1 hm
      obtain ⟨I', E'⟩ := I.alloc (.miter (some m) clock [] clock) (.mapIter (some p.blk) clock #[] clock) 0 (by simp)
        ⟨some p.blk, by simp, rfl, g1, p, Ren.upd_ext (I.fresh _ (Nat.le_refl _)) _ _ hp, rfl⟩
      refine ⟨_, _, ?_, _, _, _, hr, newPtr_ok 0, I', E'⟩
      simp only [Instr.range, underlying, Sem.run_bind, run_program, Result.andThen_ok, hU, Sem.run_pure, hget, run_newObj]
    · cases hr
  · cases hr

theorem candK_mem {it : Nat} {m : Option Nat} {since : Nat} {seen : List Nat} {clock : Nat} {K : Value → Hp → Bool} : ∀ {L : List (Option MapEntry)}, candK h it m since seen clock K L = true → ∀ o ∈ L,
    match o with
    | none => K (.tuple #[.bool false]) h = true
    | some e => flatN 6 e.key = true ∧ flatN 6 e.val = true ∧ K (.tuple #[.bool true, e.key, e.val]) (h.put it (.miter m since (seen ++ [e.born]) clock)) = true
  | [], _ => by simp
  | none :: r, hc => by
    simp only [candK] at hc
    split at hc
    · rename_i h1
      intro o ho
      rcases List.mem_cons.1 ho with rfl | ho
      · exact h1
      · exact candK_mem hc o ho
    · cases hc
  | some e :: r, hc => by
    simp only [candK] at hc
    split at hc
    · rename_i h1 h2
      split at hc
      · rename_i h3
        rw [Hp.putK_eq] at h3
        intro o ho
        rcases List.mem_cons.1 ho with rfl | ho
        · exact ⟨h1, h2, h3⟩
        · exact candK_mem hc o ho
      · cases hc
    · cases hc

theorem run_chooseNext {n : Nat} (hn : 0 < n) : ∃ k w1, (choose (.mapNext n)).run P w = .ok k w1 ∧ k < n ∧ (w1 = w ∨ w1 = { w with drawn := w.drawn + 1 }) := by
  rw [run_choose]
  split
  · exact ⟨0, w, rfl, hn, .inl rfl⟩
  · refine ⟨_, _, rfl, ?_, .inr rfl⟩
    simp only [Question.cut]
    exact Nat.mod_lt _ hn

theorem nextK_ok (I : Inv G N ρ h w) {x x' : Value} (hx : VR ρ x x') {isS : Bool} {ty : Nat} {K : Value → Hp → Bool} (hn : nextK h x isS K = true) :
    ∃ v' w', (Instr.next x' isS ty).run P w = .ok v' w' ∧ Good G N ρ h w K v' w' := by
  unfold nextK at hn
  split at hn
  case h_2 => cases hn
  rename_i b sp
  split at hn
  case h_4 => cases hn
  · -- a string
    rename_i s pos hb hg
    have g1 := blt_false.1 hb
    rcases hx.ptr_inv with ⟨q, _⟩ | ⟨_, p, hp, rfl⟩
    · simp at q; omega
    simp only at hp
    obtain ⟨p', hp', _, hok⟩ := I.dom _ _ hg (by simp)
    rw [hp] at hp'; cases hp'
    have hok2 : w.heap[p.blk]? = some (.stringIter s pos) ∧ p.off = 0 := hok
    obtain ⟨hh, hoff⟩ := hok2
    have hget := run_getObj_any (P := P) hh (by intro _ _ _ h; cases h)
    have hlt : p.blk < w.heap.size := (Array.getElem?_eq_some_iff.1 hh).1
    split at hn
    · rename_i hpos
      rw [Hp.putK_eq] at hn
      obtain ⟨I', E'⟩ := I.set hg (by simp) hp (.siter s (pos + (Utf8.decode s pos).2)) (by simp) { w with heap := w.heap.setIfInBounds p.blk (.stringIter s (pos + (Utf8.decode s pos).2)) } rfl rfl rfl (by simp)
        (fun k hk => Array.getElem?_setIfInBounds_ne (fun e => hk e.symm)) ⟨by show (w.heap.setIfInBounds p.blk _)[p.blk]? = _; rw [Array.getElem?_setIfInBounds_self_of_lt hlt], hoff⟩
      refine ⟨_, _, ?_, _, _, _, hn, .flat (n := 1) rfl, I', E'⟩
      simp only [Instr.next, hoff, Sem.run_bind, hget, Result.andThen_ok]
      simp only [hpos, if_true, Sem.run_bind]
      have hset : (setObj p.blk (.stringIter s (pos + (Utf8.decode s pos).2))).run P w = .ok () { w with heap := w.heap.setIfInBounds p.blk (.stringIter s (pos + (Utf8.decode s pos).2)) } := by simp [setObj, Sem.run, hh]
      rw [hset]; rfl
    · rename_i hpos
      refine ⟨_, w, ?_, ρ, h, _, hn, .flat (n := 1) rfl, I, .refl _ _ _⟩
      simp only [Instr.next, hoff, Sem.run_bind, hget, Result.andThen_ok]
      simp only [hpos, if_false]; rfl
  · -- a nil map
    rename_i since seen last hb hg
    obtain ⟨p, m', hp, hoff, rfl, hh, hm⟩ := miter_ok I hx hb hg
    have hget := run_getObj_any (P := P) hh (by intro _ _ _ h; cases h)
    have : m' = none := hm
    subst this
    refine ⟨_, w, ?_, ρ, h, _, hn, .flat (n := 1) rfl, I, .refl _ _ _⟩
    simp only [Instr.next, Sem.run_bind, hget, Result.andThen_ok]; rfl
  · -- a map
    rename_i m since seen last hb hg
    obtain ⟨p, m', hp, hoff, rfl, hh, hm⟩ := miter_ok I hx hb hg
    have hget := run_getObj_any (P := P) hh (by intro _ _ _ h; cases h)
    obtain ⟨g1, q, hq, rfl⟩ := hm
    split at hn
    case h_2 => cases hn
    rename_i es clock hmb hgm
    obtain ⟨q', hq', _, hok⟩ := I.dom _ _ hgm (by simp)
    rw [hq] at hq'; cases hq'
    have hgetm := run_getObj_map (P := P) (show w.heap[q.blk]? = some (.map es.toArray clock) from hok)
    split at hn
    · cases hn
    · rename_i hgone
      have hmem := candK_mem hn
      generalize hL : ((if (((es.filter fun e => !seen.contains e.born).filter (·.born < since)).isEmpty) then [none] else []) ++
        (((es.filter fun e => !seen.contains e.born).filter (·.born < since)) ++ ((es.filter fun e => !seen.contains e.born).filter (·.born ≥ since))).map some) = L at hmem
      have hpos : 0 < L.length := by
        subst hL
        by_cases he : (((es.filter fun e => !seen.contains e.born).filter (·.born < since)).isEmpty) = true
        · rw [if_pos he]; simp only [List.length_append, List.length_cons]; omega
        · simp only [List.isEmpty_iff] at he
          have := List.length_pos_iff.2 he
          simp only [List.length_append, List.length_map]; omega
      obtain ⟨k, w1, hch, hk, hw1⟩ := run_chooseNext (P := P) (w := w) hpos
      have I1 : Inv G N ρ h w1 := by
        rcases hw1 with rfl | rfl
        · exact I
        · exact I.drew
      have E1 : Ext ρ h w ρ h w1 := by
        rcases hw1 with rfl | rfl
        · exact .refl _ _ _
        · exact .drew _ _ _
      have hh1 : w1.heap[p.blk]? = some (.mapIter (some q.blk) since seen.toArray last) := by rcases hw1 with rfl | rfl <;> exact hh
      have hlt : p.blk < w1.heap.size := (Array.getElem?_eq_some_iff.1 hh1).1
      have hrun : (Instr.next (.pointer (some ⟨p.blk, 0, sp⟩)) false ty).run P w = (match L[k]? with
          | some (some e) => (do setObj p.blk (.mapIter (some q.blk) since (seen.toArray.push e.born) clock); pure (.tuple #[.bool true, e.key, e.val]) : Sem Value)
          | some none => pure (.tuple #[.bool false])
          | none => stuck "Next: no such candidate").run P w1 := by
        have hsz : ((if ((es.toArray.filter fun e => !seen.toArray.contains e.born).filter (·.born < since)).isEmpty then #[none] else #[]) ++
          (((es.toArray.filter fun e => !seen.toArray.contains e.born).filter (·.born < since)) ++ ((es.toArray.filter fun e => !seen.toArray.contains e.born).filter (·.born ≥ since))).map some : Array (Option MapEntry)) = L.toArray := by
          rw [← hL]
          apply Array.ext'
          simp
          split <;> rfl
        have hg2 : (!seen.toArray.isEmpty && !es.toArray.isEmpty && es.toArray.all (fun x => decide (x.born ≥ last))) = false := by simpa using hgone
        simp only [Instr.next, Sem.run_bind, hget, Result.andThen_ok, hgetm, hg2, Bool.false_eq_true, if_false, Sem.run_pure]
        rw [hsz]
        simp only [List.size_toArray, hch, Result.andThen_ok, List.getElem?_toArray]
        cases L[k]? with
        | none => rfl
        | some o => cases o <;> rfl
      have hLk : L[k]? = some L[k] := List.getElem?_eq_getElem hk
      have hm2 := hmem _ (List.getElem_mem hk)
      rw [hLk] at hrun
      cases hLe : L[k] with
      | none =>
        rw [hLe] at hrun hm2
        exact ⟨_, w1, hrun, ρ, h, _, hm2, .flat (n := 1) rfl, I1, E1⟩
      | some e =>
        rw [hLe] at hrun hm2
        obtain ⟨f1, f2, hK⟩ := hm2
        obtain ⟨I', E'⟩ := I1.set hg (by simp) hp (.miter (some m) since (seen ++ [e.born]) clock) (by simp) { w1 with heap := w1.heap.setIfInBounds p.blk (.mapIter (some q.blk) since (seen.toArray.push e.born) clock) } rfl rfl rfl (by simp)
          (fun k hk => Array.getElem?_setIfInBounds_ne (fun e => hk e.symm))
          ⟨some q.blk, by show (w1.heap.setIfInBounds p.blk _)[p.blk]? = _; rw [Array.getElem?_setIfInBounds_self_of_lt hlt]; simp, hoff, g1, q, hq, rfl⟩
        refine ⟨.tuple #[.bool true, e.key, e.val], _, hrun.trans ?_, ρ, _, _, hK, .flat (n := 7) (by simp [flatN, f1, f2]), I', E1.trans E'⟩
        have hset : (setObj p.blk (.mapIter (some q.blk) since (seen.toArray.push e.born) clock)).run P w1 = .ok () { w1 with heap := w1.heap.setIfInBounds p.blk (.mapIter (some q.blk) since (seen.toArray.push e.born) clock) } := by simp [setObj, Sem.run, hh1]
        simp only [Sem.run_bind, hset, Result.andThen_ok, Sem.run_pure]
end
end Go.CRun
