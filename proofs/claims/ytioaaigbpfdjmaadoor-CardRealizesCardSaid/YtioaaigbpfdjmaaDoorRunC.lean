/-
  CRUN, part C: the run that the kernel computes. Everything is in the form 'what follows' (a continuation with a Bool): true means that every way through the run ends as asked.
-/
import Derived.Test.YtioaaigbpfdjmaaDoorRunB
set_option linter.unusedSimpArgs false
set_option linter.unusedVariables false
namespace Go.CRun
open Go Go.RowKit
noncomputable section

/-- The value of a computation that asks nothing of the world. -/
def pureOf {α : Type} (P : Program) : Sem α → Option α
  | .pure a => some a
  | .program k => pureOf P (k P)
  | .mark _ k => pureOf P k
  | .choose q k => if q.forced then pureOf P (k 0) else none
  | _ => none

/-- The value in a slot. By the recursors themselves: the kernel takes these steps often. -/
def nthV (l : List Value) : Nat → Value := List.rec (motive := fun _ => Nat → Value) (fun _ => undef) (fun x _ ih i => Nat.rec (motive := fun _ => Value) x (fun j _ => ih j) i) l
theorem nthV_eq (l : List Value) : ∀ i, nthV l i = l.getD i undef := by
  induction l with
  | nil => intro i; rfl
  | cons x l ih => intro i; cases i with
    | zero => rfl
    | succ i => exact (ih i).trans (by simp [List.getD])

/-! numbers and lists put into their written-out form, so that what is handed on is small -/
def fNat (n : Nat) (K : Nat → Bool) : Bool := match n with | 0 => K 0 | m + 1 => K (m + 1)
def fInt (n : Int) (K : Int → Bool) : Bool := match n with | .ofNat m => fNat m fun m => K (.ofNat m) | .negSucc m => fNat m fun m => K (.negSucc m)
def fKind (k : IntKind) (K : IntKind → Bool) : Bool :=
  match k with | .i8 => K .i8 | .i16 => K .i16 | .i32 => K .i32 | .i64 => K .i64 | .u8 => K .u8 | .u16 => K .u16 | .u32 => K .u32 | .u64 => K .u64
def fBool (b : Bool) (K : Bool → Bool) : Bool := match b with | true => K true | false => K false
def fAddr (a : Addr) (K : Addr → Bool) : Bool :=
  match a with | ⟨b, o, none⟩ => fNat b fun b => fNat o fun o => K ⟨b, o, none⟩ | ⟨b, o, some s⟩ => K ⟨b, o, some s⟩
def fV1 (v : Value) (K : Value → Bool) : Bool :=
  match v with
  | .bool b => fBool b fun b => K (.bool b)
  | .int k n => fKind k fun k => fInt n fun n => K (.int k n)
  | .pointer (some a) => fAddr a fun a => K (.pointer (some a))
  | .slice (some a) l c => fAddr a fun a => fNat l fun l => fNat c fun c => K (.slice (some a) l c)
  | .map (some r) => fNat r fun r => K (.map (some r))
  | v => K v
def fList (l : List Value) (K : List Value → Bool) : Bool := match l with | [] => K [] | v :: r => fV1 v fun v => fList r fun r => K (v :: r)
def fV (v : Value) (K : Value → Bool) : Bool :=
  match v with
  | .agg cs => fList cs.toList fun l => K (.agg ⟨l⟩)
  | .tuple cs => fList cs.toList fun l => K (.tuple ⟨l⟩)
  | v => fV1 v K

theorem fNat_eq (n : Nat) (K) : fNat n K = K n := by cases n <;> rfl
theorem fInt_eq (n : Int) (K) : fInt n K = K n := by cases n <;> simp [fInt, fNat_eq]
theorem fKind_eq (k : IntKind) (K) : fKind k K = K k := by cases k <;> rfl
theorem fBool_eq (b : Bool) (K) : fBool b K = K b := by cases b <;> rfl
theorem fAddr_eq (a : Addr) (K) : fAddr a K = K a := by obtain ⟨b, o, s⟩ := a; cases s <;> simp [fAddr, fNat_eq]
theorem fV1_eq (v : Value) (K) : fV1 v K = K v := by
  unfold fV1; split <;> simp [fNat_eq, fInt_eq, fKind_eq, fBool_eq, fAddr_eq]
theorem fList_eq (l : List Value) (K) : fList l K = K l := by
  induction l generalizing K with
  | nil => rfl
  | cons v r ih => simp [fList, fV1_eq, ih]
theorem fV_eq (v : Value) (K) : fV v K = K v := by
  unfold fV; split <;> simp [fV1_eq, fList_eq]

/-- A slot is written. -/
def setK (l : List Value) (i : Nat) (v : Value) (K : List Value → Bool) : Bool :=
  List.rec (motive := fun _ => Nat → (List Value → Bool) → Bool) (fun _ _ => false)
    (fun x r ih i => Nat.rec (motive := fun _ => (List Value → Bool) → Bool) (fun K => K (v :: r)) (fun j _ K => ih j fun r => K (x :: r)) i) l i K
theorem setK_true {l : List Value} {i : Nat} {v : Value} {K} (h : setK l i v K = true) : i < l.length ∧ K (l.set i v) = true := by
  induction l generalizing i K with
  | nil => exact absurd h (by simp [setK])
  | cons x r ih => cases i with
    | zero => exact ⟨by simp, h⟩
    | succ i =>
      obtain ⟨a, b⟩ := ih (i := i) (K := fun r => K (x :: r)) h
      exact ⟨by simpa using a, by simpa using b⟩

/-- The slots of a frame, eight to a row. -/
structure TM where
  n : Nat
  cs : List (List Value)
def nthC (l : List (List Value)) : Nat → List Value := List.rec (motive := fun _ => Nat → List Value) (fun _ => []) (fun x _ ih i => Nat.rec (motive := fun _ => List Value) x (fun j _ => ih j) i) l
theorem nthC_eq (l : List (List Value)) : ∀ i, nthC l i = l.getD i [] := by
  induction l with
  | nil => intro i; rfl
  | cons x l ih => intro i; cases i with
    | zero => rfl
    | succ i => exact (ih i).trans (by simp [List.getD])
def TM.get (tm : TM) (i : Nat) : Value := nthV (nthC tm.cs (Nat.div i 8)) (Nat.mod i 8)
def setC (l : List (List Value)) (i : Nat) (k : Nat) (v : Value) (K : List (List Value) → Bool) : Bool :=
  List.rec (motive := fun _ => Nat → (List (List Value) → Bool) → Bool) (fun _ _ => false)
    (fun x r ih i => Nat.rec (motive := fun _ => (List (List Value) → Bool) → Bool) (fun K => setK x k v fun x => K (x :: r)) (fun j _ K => ih j fun r => K (x :: r)) i) l i K
theorem setC_true {l : List (List Value)} {i k : Nat} {v : Value} {K} (h : setC l i k v K = true) :
    i < l.length ∧ k < (l.getD i []).length ∧ K (l.set i ((l.getD i []).set k v)) = true := by
  induction l generalizing i K with
  | nil => exact absurd h (by simp [setC])
  | cons x r ih => cases i with
    | zero =>
      obtain ⟨a, b⟩ := setK_true (l := x) (i := k) (v := v) (K := fun x => K (x :: r)) h
      exact ⟨by simp, by simpa [List.getD] using a, by simpa [List.getD] using b⟩
    | succ i =>
      obtain ⟨a, b, c⟩ := ih (i := i) (K := fun r => K (x :: r)) h
      exact ⟨by simpa using a, by simpa [List.getD] using b, by simpa [List.getD] using c⟩
def TM.setK (tm : TM) (i : Nat) (v : Value) (K : TM → Bool) : Bool :=
  match tm with
  | ⟨n, cs⟩ => match Nat.blt i n with
    | true => setC cs (Nat.div i 8) (Nat.mod i 8) v fun cs => K ⟨n, cs⟩
    | false => false
theorem TM.setK_true {tm : TM} {i : Nat} {v : Value} {K} (h : tm.setK i v K = true) :
    i < tm.n ∧ ∃ tm' : TM, K tm' = true ∧ tm'.n = tm.n ∧ ∀ j, tm'.get j = if j = i then v else tm.get j := by
  obtain ⟨n, cs⟩ := tm
  simp only [TM.setK] at h
  cases hi : Nat.blt i n with
  | false => simp [hi] at h
  | true =>
    simp only [hi] at h
    obtain ⟨a, b, c⟩ := setC_true h
    have hd : ∀ x, Nat.div x 8 = x / 8 := fun _ => rfl
    have hmd : ∀ x, Nat.mod x 8 = x % 8 := fun _ => rfl
    refine ⟨Nat.le_of_ble_eq_true hi, _, c, rfl, fun j => ?_⟩
    simp only [TM.get, nthV_eq, nthC_eq, hd, hmd] at *
    by_cases hji : j = i
    · subst hji
      rw [if_pos rfl]
      simp only [List.getD, List.getElem?_set, a, if_true] at b ⊢
      simp [b]
    · rw [if_neg hji]
      by_cases hq : j / 8 = i / 8
      · have hm : i % 8 ≠ j % 8 := by omega
        rw [hq]
        simp [List.getD, a, List.getElem?_set, hm]
      · have hq' : i / 8 ≠ j / 8 := fun e => hq e.symm
        simp [List.getD, List.getElem?_set, hq']
def u8 : List Value := [undef, undef, undef, undef, undef, undef, undef, undef]
def chunks : List Value → List (List Value)
  | a :: b :: c :: d :: e :: f :: g :: h :: r => [a, b, c, d, e, f, g, h] :: chunks r
  | l => [l ++ List.replicate (8 - l.length) undef]
def mkTM (n : Nat) (args : List Value) : TM := ⟨n, chunks args ++ List.replicate (Nat.div n 8) u8⟩

def putK : Nat → List Blk → Nat → Blk → (List Blk → Bool) → Bool
  | n + 1, b :: r, i, x, K => match Nat.beq i n with | true => K (x :: r) | false => putK n r i x fun r => K (b :: r)
  | _, l, _, _, K => K l
theorem putK_eq : ∀ (n : Nat) (l : List Blk) (i : Nat) (x : Blk) (K), putK n l i x K = K (putB n l i x)
  | 0, l, i, x, K => by simp [putK, putB]
  | n + 1, [], i, x, K => by simp [putK, putB]
  | n + 1, b :: r, i, x, K => by
    simp only [putK, putB]
    cases Nat.beq i n with
    | true => rfl
    | false => simp only; rw [putK_eq]
def Hp.putK (h : Hp) (i : Nat) (x : Blk) (K : Hp → Bool) : Bool :=
  match h with | ⟨n, bs⟩ => CRun.putK n bs i x fun l => K ⟨n, l⟩
theorem Hp.putK_eq (h : Hp) (i : Nat) (x : Blk) (K) : h.putK i x K = K (h.put i x) := by
  unfold Hp.putK; simp only [CRun.putK_eq]; rfl
def Hp.pushK (h : Hp) (x : Blk) (K : Hp → Bool) : Bool :=
  match h with | ⟨n, bs⟩ => fNat (n + 1) fun n => K ⟨n, x :: bs⟩
theorem Hp.pushK_eq (h : Hp) (x : Blk) (K) : h.pushK x K = K (h.push x) := by
  unfold Hp.pushK; simp only [fNat_eq]; rfl

def kindEq (j k : IntKind) : Bool := Nat.beq j.ctorIdx k.ctorIdx
def eqI : Int → Int → Bool
  | .ofNat m, .ofNat n => Nat.beq m n
  | .negSucc m, .negSucc n => Nat.beq m n
  | _, _ => false

def lookG : Globs → Nat → Option (List Value)
  | [], _ => none
  | (g, vs) :: r, i => match Nat.beq g i with | true => some vs | false => lookG r i
/-- The cells of a block. -/
def cellsOf (G : Globs) (h : Hp) (b : Nat) : Option (List Value) :=
  match Nat.blt b base with
  | true => lookG G b
  | false => match h.get (b - base) with | some (.cells c _ _ _) => some c | _ => none

/-- Some cells of a block from an address on. -/
def cellsAt (G : Globs) (h : Hp) (a : Addr) (n : Nat) : Option (List Value) :=
  match a.spot with
  | some _ => none
  | none => match cellsOf G h a.block with
    | none => none
    | some c => let s := (c.drop a.off).take n; match Nat.beq s.length n with | true => some s | false => none

def isAggD : TypeDesc → Bool
  | .struct _ | .array _ _ => true
  | _ => false

def loadE (P : Program) (G : Globs) (h : Hp) (t : TypeId) (a : Addr) : Option Value :=
  match P.underlying t, P.info? t with
  | some d, some i => match isAggD d with
    | true => match cellsAt G h a i.size with | some l => some (.agg l.toArray) | none => none
    | false => match cellsAt G h a 1 with | some (v :: _) => some v | _ => none
  | _, _ => none

def oneCells : List Value → Bool
  | [] => true
  | v :: r => match v.oneCell' with | true => oneCells r | false => false

def setRange (c : List Value) (o : Nat) (vs : List Value) : List Value := c.take o ++ vs ++ c.drop (o + vs.length)

/-- Cells are written behind an address. -/
def storeCellsK (h : Hp) (a : Addr) (vs : List Value) (K : Hp → Bool) : Bool :=
  match a.spot, Nat.blt a.block base, h.get (a.block - base) with
  | none, false, some (.cells c e sz g) =>
    match Nat.ble (a.off + vs.length) c.length, oneCells vs with
    | true, true => match vs with
      | [v] => setK c a.off v fun c => h.putK (a.block - base) (.cells c e sz g) K
      | vs => fList (setRange c a.off vs) fun c => h.putK (a.block - base) (.cells c e sz g) K
    | _, _ => false
  | _, _, _ => false

def zeroE (P : Program) (t : TypeId) : Option Value :=
  match P.info? t with
  | some i => match i.zero with
    | some z => match flatN 6 z with | true => some z | false => none
    | none => none
  | none => none

def newPtr (h : Hp) : Value := .pointer (some ⟨base + h.n, 0, none⟩)
def newSlice (h : Hp) (l c : Nat) : Value := .slice (some ⟨base + h.n, 0, none⟩) l c

def evO (tm : TM) : Operand → Option Value
  | .tmp t => some (tm.get t)
  | .const v => match flatN 6 v with | true => some v | false => none
  | .global g => match Nat.blt g base with | true => some (.pointer (some ⟨g, 0, none⟩)) | false => none
  | .func f => some (.func (.func f) #[] #[])
def evL (tm : TM) : List Operand → Option (List Value)
  | [] => some []
  | x :: r => match evO tm x, evL tm r with | some v, some l => some (v :: l) | _, _ => none
def evOp (tm : TM) : Option Operand → Option (Option Value)
  | none => some none
  | some x => (evO tm x).map some
def evP (tm : TM) : List (Nat × Operand) → Option (List (Nat × Value))
  | [] => some []
  | (i, x) :: r => match evO tm x, evP tm r with | some v, some l => some ((i, v) :: l) | _, _ => none

def allFlat : List Value → Bool
  | [] => true
  | v :: r => match flatN 6 v with | true => allFlat r | false => false

/-- What an operation can do that neither reads nor writes memory, on values that name no block. -/
def pureE (P : Program) (tm : TM) (o : Oper) : Option Value :=
  match evL tm o.op.operands.toList with
  | some l => match allFlat l with
    | true => match o.op with
      | .select _ _ => none
      | _ => match pureOf P (execOp (fun x => (evO tm x).getD undef) o) with
        | some (.value v) => match flatN 6 v with | true => some v | false => none
        | _ => none
    | false => none
  | none => none

def boundE (x : Option Value) (d y : Nat) : Option Nat :=
  match x with
  | none => some d
  | some (.int _ (.ofNat i)) => match Nat.ble i y with | true => some i | false => none
  | _ => none

def sliceE (P : Program) (h : Hp) (t : TypeId) (x : Value) (lo hi : Option Value) : Option Value :=
  match P.underlying t, x with
  | some (.slice e), .slice (some a) len cap =>
    match boundE hi len cap, P.info? e with
    | some hh, some ie => match boundE lo 0 hh with
      | some l =>
        match Nat.beq cap l with
        | true => match Nat.beq l 0 with
          | true => some (.slice (some a) (hh - l) (cap - l))
          | false => none
        | false => match Nat.ble l cap with
          | true => some (.slice (some (a.add (l * ie.size))) (hh - l) (cap - l))
          | false => none
      | none => none
    | _, _ => none
  | some (.slice e), .slice none len cap =>
    match boundE hi len cap, P.info? e with
    | some hh, some ie => match boundE lo 0 hh with
      | some l => some (.slice none (hh - l) (cap - l))
      | none => none
    | _, _ => none
  | some (.array n e), .pointer (some a) =>
    match boundE hi n n, P.info? e, Nat.blt a.block base, h.get (a.block - base) with
    | some hh, some ie, false, some (.cells _ _ _ false) => match boundE lo 0 hh with
      | some l => match Nat.beq n l with
        | true => some (.slice (some a) (hh - l) (n - l))
        | false => some (.slice (some (a.add (l * ie.size))) (hh - l) (n - l))
      | none => none
    | _, _, _, _ => none
  | _, _ => none

/-- 's[l:]' where nothing is left: an address that is not told. -/
def sliceK (P : Program) (h : Hp) (t : TypeId) (x : Value) (lo hi : Option Value) (K : Value → Hp → Bool) : Bool :=
  match P.underlying t, x with
  | some (.slice e), .slice (some a) len cap =>
    match boundE hi len cap, P.info? e with
    | some hh, some ie => match boundE lo 0 hh with
      | some l => match Nat.beq cap l, Nat.beq hh l, Nat.blt a.block base, a.spot with
        | true, true, false, none => h.pushK .dead fun h' => K (newSlice h 0 0) h'
        | _, _, _, _ => false
      | none => false
    | _, _ => false
  | _, _ => false

def fieldAddrE (P : Program) (t : TypeId) (x : Value) (f : Nat) : Option Value :=
  match P.underlying t, x with
  | some (.struct fields), .pointer (some a) => match fields[f]? with
    | some fd => match P.info? fd.type with
      | some i => match Nat.beq i.size 0 with | true => none | false => some (.pointer (some (a.add fd.offset)))
      | none => none
    | none => none
  | _, _ => none

def indexAddrE (P : Program) (t : TypeId) (x ix : Value) : Option Value :=
  match P.underlying t, x, ix with
  | some (.array len e), .pointer (some a), .int _ (.ofNat i) | some (.slice e), .slice (some a) len _, .int _ (.ofNat i) =>
    match Nat.blt i len, P.info? e with
    | true, some ie => some (.pointer (some (a.add (i * ie.size))))
    | _, _ => none
  | _, _, _ => none

/-- A part of a struct or an array. -/
def partE (P : Program) (t : TypeId) (cs : List Value) (off : Nat) : Option Value :=
  match P.underlying t, P.info? t with
  | some d, some i => match isAggD d with
    | true => some (.agg ((cs.drop off).take i.size).toArray)
    | false => (cs.drop off).head?
  | _, _ => none

def fieldE (P : Program) (t : TypeId) (x : Value) (f : Nat) : Option Value :=
  match P.underlying t, x with
  | some (.struct fields), .agg cs => match fields[f]? with
    | some fd => partE P fd.type cs.toList fd.offset
    | none => none
  | _, _ => none

def zerosFor (z : Array Value) (n : Nat) : List Value := (List.range n).map fun i => z[i % z.size]!

/-- No slice and no string. -/
def isIntD : TypeDesc → Bool
  | .slice _ | .string => false
  | _ => true

/-- The cells of the first n elements. -/
def firstE (G : Globs) (h : Hp) (sz n : Nat) : Value → Option (List Value)
  | .slice (some a) _ _ => match Nat.beq n 0 with | true => some [] | false => cellsAt G h a (n * sz)
  | .slice none _ _ => some []
  | .string s => some ((s.extract 0 n).data.toList.map fun b => .int .u8 b.toNat)
  | _ => none
def lenE : Value → Option Nat
  | .slice _ n _ => some n
  | .string s => some s.size
  | _ => none

/-- Where 'append' makes a new row: so that the sizes stay in the model's reach. -/
def fitsE (len n cap bytes : Nat) : Bool :=
  match Nat.blt ((len + n) * bytes) 140737488355328, Nat.blt 0 bytes with
  | true, true => true
  | _, _ => false

def appendK (P : Program) (G : Globs) (h : Hp) (sT xT : TypeId) (s x : Value) (K : Value → Hp → Bool) : Bool :=
  match P.underlying sT, P.underlying xT, lenE x with
  | some (.slice e), some xd, some n =>
    match isIntD xd, P.info? e, zeroE P e with
    | false, some ie, some z => match firstE G h ie.size n x, s, Nat.beq z.cells.size ie.size with
      | some new, .slice base' len cap, true =>
        match oneCells new, Nat.ble (len + n) cap with
        | true, true => match base' with
          | some a => match new with
            | [] => K (.slice (some a) (len + n) cap) h
            | new => storeCellsK h (a.add (len * ie.size)) new fun h' => K (.slice (some a) (len + n) cap) h'
          | none => match new with
            | [] => K (.slice none (len + n) cap) h
            | _ => false
        | true, false => match fitsE len n cap ie.bytes with
          | true => match base' with
            | none => match Nat.beq len 0 with
              | true => h.pushK (.cells new e ie.size true) fun h' => K (newSlice h n n) h'
              | false => false
            | some a => match cellsAt G h a (len * ie.size), Nat.blt a.block base, h.get (a.block - base) with
              | some old, false, some (.cells c e0 sz0 g) =>
                match g with
                | false => h.pushK (.cells (old ++ new) e ie.size true) fun h' => K (newSlice h (len + n) (len + n)) h'
                | true => match Nat.beq (a.off + cap * ie.size) c.length, Nat.beq len cap, Nat.beq e0 e, Nat.beq sz0 ie.size, Nat.beq new.length (n * ie.size) with
                  | true, true, true, true, true => h.putK (a.block - base) .dead fun h => fList (old ++ new) fun l => h.pushK (.cells l e ie.size true) fun h' => K (newSlice h (len + n) (len + n)) h'
                  | _, _, _, _, _ => false
              | _, _, _ => false
          | false => false
        | _, _ => false
      | _, _, _ => false
    | _, _, _ => false
  | _, _, _ => false

def copyK (P : Program) (G : Globs) (h : Hp) (dT : TypeId) (d x : Value) (K : Value → Hp → Bool) : Bool :=
  match P.underlying dT, d, lenE x with
  | some (.slice e), .slice (some a) len _, some m =>
    match P.info? e with
    | some ie => match firstE G h ie.size (Nat.min m len) x with
      | some l => match l with
        | [] => K (.int .i64 (Nat.min m len)) h
        | l => storeCellsK h a l fun h' => K (.int .i64 (Nat.min m len)) h'
      | none => false
    | none => false
  | _, _, _ => false

def flatEntries : List MapEntry → Bool
  | [] => true
  | e :: r => match flatN 6 e.key, flatN 6 e.val with | true, true => flatEntries r | _, _ => false

def mapOf (h : Hp) : Value → Option (List MapEntry)
  | .map none => some []
  | .map (some r) => match Nat.blt r base, h.get (r - base) with | false, some (.map es _) => some es | _, _ => none
  | _ => none

def lookupE (P : Program) (h : Hp) (t : TypeId) (x k : Value) (ok : Bool) : Option Value :=
  match P.underlying t, mapOf h x, flatN 6 k with
  | some (.map kt et), some es, true => match flatEntries es with
    | true => match pureOf P (Instr.checkKey es.isEmpty 10000 kt k), pureOf P (Instr.findKey kt k es) with
      | some (), some r => match r with
        | some (_, v) => some (match ok with | true => .tuple #[v, .bool true] | false => v)
        | none => match zeroE P et with
          | some z => some (match ok with | true => .tuple #[z, .bool false] | false => z)
          | none => none
      | _, _ => none
    | false => none
  | _, _, _ => none

def mapUpdateK (P : Program) (h : Hp) (t : TypeId) (x k v : Value) (K : Hp → Bool) : Bool :=
  match P.underlying t, x, flatN 6 k, flatN 6 v with
  | some (.map kt _), .map (some r), true, true => match Nat.blt r base, h.get (r - base) with
    | false, some (.map es clock) => match pureOf P (Instr.checkKey false 10000 kt k), pureOf P (Instr.findKey kt k es) with
      | some (), some f => match f with
        | some (i, _) => match pureOf P (Instr.keyThatStays (((es[i]?).map (·.key)).getD k) k) with
          | some k' => h.putK (r - base) (.map (es.modify i fun e => { e with key := k', val := v }) clock) K
          | none => false
        | none => h.putK (r - base) (.map (es ++ [{ key := k, val := v, born := clock }]) (clock + 1)) K
      | _, _ => false
    | _, _ => false
  | _, _, _, _ => false

/-- All candidates, each with the rest. -/
def candK (h : Hp) (it : Nat) (m : Option Nat) (since : Nat) (seen : List Nat) (clock : Nat) (K : Value → Hp → Bool) : List (Option MapEntry) → Bool
  | [] => true
  | none :: r => match K (.tuple #[.bool false]) h with | true => candK h it m since seen clock K r | false => false
  | some e :: r =>
    match flatN 6 e.key, flatN 6 e.val with
    | true, true => match h.putK it (.miter m since (seen ++ [e.born]) clock) fun h' => K (.tuple #[.bool true, e.key, e.val]) h' with
      | true => candK h it m since seen clock K r
      | false => false
    | _, _ => false

def nextK (h : Hp) (x : Value) (isString : Bool) (K : Value → Hp → Bool) : Bool :=
  match x with
  | .pointer (some ⟨b, 0, _⟩) => match Nat.blt b base, h.get (b - base), isString with
    | false, some (.siter s pos), true =>
      if pos < s.size then
        let r := Utf8.decode s pos
        h.putK (b - base) (.siter s (pos + r.2)) fun h' => K (.tuple #[.bool true, goInt pos, .int .i32 r.1]) h'
      else K (.tuple #[.bool false]) h
    | false, some (.miter none _ _ _), false => K (.tuple #[.bool false]) h
    | false, some (.miter (some m) since seen last), false => match Nat.blt m base, h.get (m - base) with
      | false, some (.map es clock) =>
        if (!seen.isEmpty && !es.isEmpty && es.all (·.born ≥ last)) then false else
        let left := es.filter fun e => !seen.contains e.born
        let old := left.filter (·.born < since)
        let new := left.filter (·.born ≥ since)
        candK h (b - base) (some m) since seen clock K ((if old.isEmpty then [none] else []) ++ (old ++ new).map some)
      | _, _ => false
    | _, _, _ => false
  | _ => false

/-- The entry at which an iterator over a map stands. -/
def entryE (h : Hp) (x : Value) : Option Value :=
  match x with
  | .pointer (some ⟨b, 0, _⟩) => match Nat.blt b base, h.get (b - base) with
    | false, some (.miter (some m) _ seen last) => match Nat.blt m base, h.get (m - base), seen.getLast? with
      | false, some (.map es clock), some stamp => match Nat.beq clock last with
        | true => match es.find? (fun e => Nat.beq e.born stamp) with
          | some e => match flatN 6 e.key, flatN 6 e.val with | true, true => some (.tuple #[e.key, e.val]) | _, _ => none
          | none => none
        | false => none
      | _, _, _ => none
    | _, _ => none
  | _ => none

def rangeK (P : Program) (h : Hp) (t : TypeId) (x : Value) (K : Value → Hp → Bool) : Bool :=
  match P.underlying t, x with
  | some .string, .string s => h.pushK (.siter s 0) fun h' => K (newPtr h) h'
  | some (.map _ _), .map none => h.pushK (.miter none 0 [] 0) fun h' => K (newPtr h) h'
  | some (.map _ _), .map (some m) => match Nat.blt m base, h.get (m - base) with
    | false, some (.map _ clock) => h.pushK (.miter (some m) clock [] clock) fun h' => K (newPtr h) h'
    | _, _ => false
  | _, _ => false

abbrev CallK := FuncId → List Value → Hp → (Value → Hp → Bool) → Bool

def isNil : Value → Bool
  | .pointer none | .slice none _ _ | .map none | .nilFunc | .nilIface => true
  | _ => false

/-- '==' where one operand is nil (a slice, a map, a pointer, a function). -/
def nilEq (P : Program) (t : TypeId) (x y : Value) : Option Bool :=
  match P.underlying t, x, y with
  | some (.pointer _), .pointer none, .pointer b => some b.isNone
  | some (.pointer _), .pointer b, .pointer none => some b.isNone
  | some (.slice _), .slice none _ _, .slice b _ _ => some b.isNone
  | some (.slice _), .slice b _ _, .slice none _ _ => some b.isNone
  | some (.map _ _), .map none, .map b => some b.isNone
  | some (.map _ _), .map b, .map none => some b.isNone
  | some (.func _ _ _), .nilFunc, .func _ _ _ => some false
  | some (.func _ _ _), .func _ _ _, .nilFunc => some false
  | _, _, _ => none

def bytesE : List Value → ByteArray → Option ByteArray
  | [], acc => some acc
  | .int .u8 n :: r, acc => bytesE r (acc.push (UInt8.ofNat n.toNat))
  | _, _ => none
/-- 'string(b)', b a slice of bytes. -/
def convE (P : Program) (G : Globs) (h : Hp) (src dst : TypeId) (x : Value) : Option Value :=
  match P.underlying src, P.underlying dst, x with
  | some (.slice e), some .string, .slice none _ _ => match P.underlying e with | some (.int .u8) => some (.string .empty) | _ => none
  | some (.slice e), some .string, .slice (some a) n _ => match P.underlying e, (match Nat.beq n 0 with | true => some [] | false => cellsAt G h a n) with
    | some (.int .u8), some l => match bytesE l .empty with | some s => some (.string s) | none => none
    | _, _ => none
  | _, _, _ => none

/-- An operation that leaves memory as it is. -/
def isRead : Op → Bool
  | .move _ | .assign _ | .pick .. | .build .. | .load .. | .nilCheck _ | .makeFunc .. | .fieldAddr .. | .field .. | .indexAddr .. | .index .. | .extract .. | .lookup ..
  | .binOp .. | .unOp .. | .convert .. | .entry _ => true
  | .slice .. => true
  | .call c => match c.callee with
    | .builtin .len | .builtin .max | .builtin .min => true
    | _ => false
  | _ => false

def halfOf : IntKind → Nat
  | .i8 => 128 | .i16 => 32768 | .i32 => 2147483648 | .i64 => 9223372036854775808
  | .u8 => 256 | .u16 => 65536 | .u32 => 4294967296 | .u64 => 18446744073709551616
def powOf : IntKind → Nat
  | .i8 | .u8 => 256 | .i16 | .u16 => 65536 | .i32 | .u32 => 4294967296 | .i64 | .u64 => 18446744073709551616
def wrapF (k : IntKind) (n : Int) : Int :=
  match n with
  | .ofNat m => match Nat.blt m (halfOf k) with | true => .ofNat m | false => k.wrap (.ofNat m)
  | .negSucc m => k.wrap (.negSucc m)
def ltI : Int → Int → Bool
  | .ofNat m, .ofNat n => Nat.blt m n
  | .negSucc m, .negSucc n => Nat.blt n m
  | .negSucc _, .ofNat _ => true
  | .ofNat _, .negSucc _ => false
def notB : Bool → Bool | true => false | false => true
/-- An operation on two integers. -/
def intE (op : BinOp) (j : IntKind) (a : Int) (k : IntKind) (b : Int) : Option Value :=
  match op with
  | .shl => match b with | .ofNat n => some (.int j (wrapF j (a * .ofNat (Nat.pow 2 (Nat.min n j.bits))))) | _ => none
  | .shr => match a, b with | .ofNat m, .ofNat n => some (.int j (.ofNat (Nat.div m (Nat.pow 2 (Nat.min n j.bits))))) | _, _ => none
  | op => match kindEq j k with
    | false => none
    | true => match op with
      | .add => some (.int j (wrapF j (a + b)))
      | .sub => some (.int j (wrapF j (a - b)))
      | .mul => some (.int j (wrapF j (a * b)))
      | .eql => some (.bool (eqI a b))
      | .neq => some (.bool (notB (eqI a b)))
      | .lss => some (.bool (ltI a b))
      | .leq => some (.bool (notB (ltI b a)))
      | .gtr => some (.bool (ltI b a))
      | .geq => some (.bool (notB (ltI a b)))
      | .quo => match a, b with | .ofNat m, .ofNat (n + 1) => some (.int j (wrapF j (.ofNat (Nat.div m (n + 1))))) | _, _ => none
      | .rem => match a, b with | .ofNat m, .ofNat (n + 1) => some (.int j (.ofNat (Nat.mod m (n + 1)))) | _, _ => none
      | .and => match a, b with | .ofNat m, .ofNat n => some (.int j (wrapF j (.ofNat (Nat.land (Nat.mod m (powOf j)) (Nat.mod n (powOf j)))))) | _, _ => none
      | .or => match a, b with | .ofNat m, .ofNat n => some (.int j (wrapF j (.ofNat (Nat.lor (Nat.mod m (powOf j)) (Nat.mod n (powOf j)))))) | _, _ => none
      | .xor => match a, b with | .ofNat m, .ofNat n => some (.int j (wrapF j (.ofNat (Nat.xor (Nat.mod m (powOf j)) (Nat.mod n (powOf j)))))) | _, _ => none
      | .andNot => match a, b with | .ofNat m, .ofNat n => some (.int j (wrapF j (.ofNat (Nat.land (Nat.mod m (powOf j)) (powOf j - 1 - Nat.mod n (powOf j)))))) | _, _ => none
      | _ => none

def lenK (P : Program) (tm : TM) (h : Hp) (o : Oper) (c : Call) : Option Value :=
  match evL tm c.args.toList, c.argTypes.toList with
  | some (.slice _ n _ :: _), t :: _ => match P.underlying t with | some (.slice _) => some (.int .i64 n) | _ => none
  | some (.map m :: _), t :: _ => match P.underlying t, mapOf h (.map m) with | some (.map _ _), some es => some (.int .i64 es.length) | _, _ => none
  | _, _ => pureE P tm o

def readE (P : Program) (G : Globs) (tm : TM) (h : Hp) (o : Oper) : Option Value :=
  match o.op with
  | .move x | .assign x => evO tm x
  | .pick c a b => match evO tm c with
    | some (.bool true) => evO tm a
    | some (.bool false) => evO tm b
    | _ => none
  | .build t parts => match evP tm parts.toList, zeroE P t, P.underlying t with
    | some ps, some z, some (.struct fields) => match fields.toList.mapM (fun f => (P.info? f.type).map fun i => (f.offset, i.size)) with
      | some places => match Instr.fill (places[·]?) z.cells ps with | some cs => some (.agg cs) | none => none
      | none => none
    | some ps, some z, some (.array _ e) => match P.info? e with
      | some ie => match Instr.fill (fun i => some (i * ie.size, ie.size)) z.cells ps with | some cs => some (.agg cs) | none => none
      | none => none
    | _, _, _ => none
  | .load t a => match evO tm a with
    | some (.pointer (some a)) => loadE P G h t a
    | _ => none
  | .nilCheck x => match evO tm x with
    | some (.pointer (some a)) => some (.pointer (some a))
    | some (.func (.func f) a b) => some (.func (.func f) a b)
    | _ => none
  | .makeFunc fn first captured => match evL tm first.toList, evL tm captured.toList with
    | some a, some b => some (.func fn a.toArray b.toArray)
    | _, _ => none
  | .slice t x lo hi none => match evO tm x, evOp tm lo, evOp tm hi with
    | some (.string _), _, _ => pureE P tm o
    | some v, some lo, some hi => sliceE P h t v lo hi
    | _, _, _ => none
  | .fieldAddr t x f => match evO tm x with
    | some v => fieldAddrE P t v f
    | none => none
  | .field t x f => match evO tm x with
    | some v => fieldE P t v f
    | none => none
  | .indexAddr t x i => match evO tm x, evO tm i with
    | some v, some i => indexAddrE P t v i
    | _, _ => none
  | .extract x i => match evO tm x with
    | some (.tuple vs) => vs[i]?
    | _ => none
  | .entry i => match evO tm i with
    | some v => entryE h v
    | none => none
  | .lookup t x i ok => match evO tm x, evO tm i with
    | some v, some k => lookupE P h t v k ok
    | _, _ => none
  | .binOp op t x y _ => match evO tm x, evO tm y with
    | some (.int j a), some (.int k b) => match intE op j a k b with
      | some v => some v
      | none => pureE P tm o
    | some a, some b => match op with
      | .eql => match nilEq P t a b with
        | some r => some (.bool r)
        | none => pureE P tm o
      | .neq => match nilEq P t a b with
        | some r => some (.bool (notB r))
        | none => pureE P tm o
      | _ => pureE P tm o
    | _, _ => none
  | .unOp .. | .index .. => pureE P tm o
  | .convert src dst x => match evO tm x with
    | some (.slice a l c) => convE P G h src dst (.slice a l c)
    | _ => pureE P tm o
  | .call c => match c.callee with
    | .builtin .len => lenK P tm h o c
    | .builtin .max | .builtin .min => pureE P tm o
    | _ => none
  | _ => none

def callK (P : Program) (G : Globs) (call : CallK) (tm : TM) (h : Hp) (o : Oper) (c : Call) (K : Value → Hp → Bool) : Bool :=
  match c.callee, evL tm c.args.toList with
  | .value f, some args => match evO tm f with
    | some (.func (.func g) first captured) => call g (first.toList ++ args ++ captured.toList) h K
    | _ => false
  | .builtin .append, some [s, x] => match c.argTypes.toList with
    | sT :: xT :: _ => appendK P G h sT xT s x K
    | _ => false
  | .builtin .copy, some [d, x] => match c.argTypes.toList with
    | dT :: _ => copyK P G h dT d x K
    | _ => false
  | _, _ => false

/-- An operation that makes or writes memory, or calls. -/
def effK (P : Program) (G : Globs) (call : CallK) (tm : TM) (h : Hp) (o : Oper) (K : Value → Hp → Bool) : Bool :=
  match o.op with
  | .alloc e => match zeroE P e with | some z => h.pushK (.cells z.cells.toList e 0 false) fun h' => K (newPtr h) h' | none => false
  | .box e x => match evO tm x with | some v => h.pushK (.cells v.cells.toList e 0 false) fun h' => K (newPtr h) h' | none => false
  | .buildSlice t len parts => match evP tm parts.toList, P.underlying t with
    | some ps, some (.slice e) => match P.info? e, zeroE P e with
      | some ie, some z => match Nat.ble (len * ie.size) 65536 with
        | true => match Instr.fill (fun i => some (i * ie.size, ie.size)) (zerosFor z.cells (len * ie.size)).toArray ps with
          | some cs => fList cs.toList fun l => h.pushK (.cells l e ie.size false) fun h' => K (newSlice h len len) h'
          | none => false
        | false => false
      | _, _ => false
    | _, _ => false
  | .store t a x => match evO tm a, evO tm x, P.info? t with
    | some (.pointer (some a)), some v, some i => match Nat.beq v.cells.size i.size with
      | true => storeCellsK h a v.cells.toList fun h' => K undef h'
      | false => false
    | _, _, _ => false
  | .makeMap _ none => h.pushK (.map [] 0) fun h' => K (.map (some (base + h.n))) h'
  | .makeSlice t l c => match evO tm l, evO tm c, P.underlying t with
    | some (.int .i64 (.ofNat l)), some (.int .i64 (.ofNat c)), some (.slice e) => match P.info? e, zeroE P e with
      | some ie, some z => match Nat.ble l c, Nat.ble c 65536, Nat.ble (c * ie.size) 65536, Nat.ble ie.bytes 65536 with
        | true, true, true, true => h.pushK (.cells (zerosFor z.cells (c * ie.size)) e ie.size false) fun h' => K (newSlice h l c) h'
        | _, _, _, _ => false
      | _, _ => false
    | _, _, _ => false
  | .slice t x lo hi none => match evO tm x, evOp tm lo, evOp tm hi with
    | some v, some lo, some hi => sliceK P h t v lo hi K
    | _, _, _ => false
  | .mapUpdate t m k x => match evO tm m, evO tm k, evO tm x with
    | some m, some k, some x => mapUpdateK P h t m k x fun h' => K undef h'
    | _, _, _ => false
  | .range t x => match evO tm x with | some v => rangeK P h t v K | none => false
  | .next i s => match evO tm i with | some v => nextK h v s K | none => false
  | .call c => callK P G call tm h o c K
  | _ => false

/-- One operation. -/
def opK (P : Program) (G : Globs) (call : CallK) (tm : TM) (h : Hp) (o : Oper) (K : Value → Hp → Bool) : Bool :=
  match isRead o.op with
  | true => match readE P G tm h o with
    | some v => K v h
    | none => effK P G call tm h o K
  | false => effK P G call tm h o K

def yieldE (ops : List Oper) (tm : TM) (j : Nat) : Option Bool :=
  match ops[j]? with
  | some o => match o.dst with
    | some d => match tm.get d with | .bool b => some b | _ => none
    | none => none
  | none => none
def wantE (ops : List Oper) (tm : TM) (o : Oper) : Bool :=
  match o.guard with
  | none => true
  | some (j, want) => match yieldE ops tm j with | some b => b == want | none => false

def putT (tm : TM) (d : Option Tmp) (v : Value) (K : TM → Bool) : Bool :=
  match d with
  | some d => tm.setK d v K
  | none => K tm

/-- The operations of a region in the order of the text. -/
def opsK (P : Program) (G : Globs) (call : CallK) (ops : List Oper) : List Oper → TM → Hp → (TM → Hp → Bool) → Bool
  | [], tm, h, K => K tm h
  | o :: r, tm, h, K =>
    match wantE ops tm o with
    | true => opK P G call tm h o fun v h' => fV v fun v => putT tm o.dst v fun tm' => opsK P G call ops r tm' h' K
    | false => putT tm o.dst undef fun tm' => opsK P G call ops r tm' h K

/-! A region whose order is drawn: all that only reads is run as early as can be, then the one operation that writes or calls on which all the rest hangs; and each operation that has only read, and is not bound to come before
that one, is asked again behind it. -/
/-- What such an operation yields hangs on its operands alone. -/
def isSilent : Op → Bool
  | .load .. | .lookup .. | .slice .. | .entry _ | .convert .. => false
  | .call c => match c.callee with
    | .builtin .len => false
    | _ => true
  | _ => true
def maskOf (i : Nat) (ancs : List Nat) : List Edge → Nat → Nat
  | [], m => m
  | e :: r, m => match Region.binds .any e with
    | true => maskOf i ancs r (Nat.lor (Nat.lor m (Nat.pow 2 e.on)) (ancs.getD (i - 1 - e.on) 0))
    | false => maskOf i ancs r m
def bit (m i : Nat) : Bool := Nat.beq (Nat.land (Nat.shiftRight m i) 1) 1
def within (a m : Nat) : Bool := Nat.beq (Nat.land a m) a

def eqF : Value → Value → Bool
  | .bool a, .bool b => decide (a = b)
  | .int j a, .int k b => kindEq j k && eqI a b
  | .string a, .string b => decide (a.data.toList = b.data.toList)
  | .pointer a, .pointer b => decide (a = b)
  | .slice a l c, .slice b m d => decide (a = b) && Nat.beq l m && Nat.beq c d
  | .map a, .map b => decide (a = b)
  | _, _ => false
def eqFL : List Value → List Value → Bool
  | [], [] => true
  | x :: xs, y :: ys => eqF x y && eqFL xs ys
  | _, _ => false
def eqA : Value → Value → Bool
  | .agg a, .agg b => eqFL a.toList b.toList
  | x, y => eqF x y
def eqAL : List Value → List Value → Bool
  | [], [] => true
  | x :: xs, y :: ys => eqA x y && eqAL xs ys
  | _, _ => false
def eqV : Value → Value → Bool
  | .tuple a, .tuple b => eqAL a.toList b.toList
  | x, y => eqA x y

structure Rd where
  idx : Nat
  o : Oper
  tm : TM
  v : Value

/-- Each earlier reader that is not bound to come before reads the same behind the write. -/
def readsAgain (P : Program) (G : Globs) (h : Hp) (mask : Nat) : List Rd → Bool
  | [] => true
  | r :: rs => match bit mask r.idx with
    | true => readsAgain P G h mask rs
    | false => match readE P G r.tm h r.o with
      | some v => match eqV r.v v with | true => readsAgain P G h mask rs | false => false
      | none => false
/-- An operation of a region: its number, and the numbers of those that are bound to come before it. -/
structure It where
  i : Nat
  o : Oper
  m : Nat
def mkIts : Nat → List Nat → List Oper → (List It → Bool) → Bool
  | _, _, [], K => K []
  | i, ancs, o :: r, K => fNat (maskOf i ancs o.after.toList 0) fun m => fNat (i + 1) fun i' => mkIts i' (m :: ancs) r fun l => K (⟨i, o, m⟩ :: l)

/-- All that only reads and is not bound to wait. -/
def passK (P : Program) (G : Globs) (ops : List Oper) (h : Hp) : List It → Nat → List Rd → TM → List It → (Nat → List Rd → TM → List It → Bool) → Bool
  | [], done, reads, tm, acc, K => K done reads tm acc.reverse
  | x :: r, done, reads, tm, acc, K => match within x.m done with
    | false => passK P G ops h r done reads tm (x :: acc) K
    | true => match wantE ops tm x.o with
      | false => putT tm x.o.dst undef fun tm' => fNat (Nat.lor done (Nat.pow 2 x.i)) fun d => passK P G ops h r d reads tm' acc K
      | true => match isRead x.o.op with
        | false => passK P G ops h r done reads tm (x :: acc) K
        | true => match readE P G tm h x.o with
          | none => false
          | some v => fV v fun v => putT tm x.o.dst v fun tm' => fNat (Nat.lor done (Nat.pow 2 x.i)) fun d =>
            passK P G ops h r d (match isSilent x.o.op with | true => reads | false => ⟨x.i, x.o, tm, v⟩ :: reads) tm' acc K

def allAfter (i : Nat) : List It → Bool
  | [] => true
  | y :: r => match bit y.m i with | true => allAfter i r | false => false

def drawGo (P : Program) (G : Globs) (call : CallK) (ops : List Oper) : Nat → Nat → List Rd → TM → Hp → List It → (TM → Hp → Bool) → Bool
  | 0, _, _, _, _, _, _ => false
  | n + 1, done, reads, tm, h, its, K => passK P G ops h its done reads tm [] fun done reads tm rem => match rem with
    | [] => K tm h
    | x :: rs => match within x.m done, wantE ops tm x.o, isRead x.o.op, allAfter x.i rs with
      | true, true, false, true => effK P G call tm h x.o fun v h' => fV v fun v => match readsAgain P G h' x.m reads with
        | false => false
        | true => putT tm x.o.dst v fun tm' => fNat (Nat.lor done (Nat.pow 2 x.i)) fun d => drawGo P G call ops n d reads tm' h' rs K
      | _, _, _, _ => false
def drawK (P : Program) (G : Globs) (call : CallK) (ops : List Oper) (tm : TM) (h : Hp) (K : TM → Hp → Bool) : Bool :=
  mkIts 0 [] ops fun its => drawGo P G call ops 100 0 [] tm h its K

abbrev PostK := Exit → TM → Hp → Bool

def stepK (P : Program) (G : Globs) (call : CallK)
    (self : Code → TM → Hp → PostK → Bool) : Code → TM → Hp → PostK → Bool
  | .skip, tm, h, Q => Q .normal tm h
  | .region _ ops false, tm, h, Q => opsK P G call ops.toList ops.toList tm h fun tm h => Q .normal tm h
  | .region _ ops true, tm, h, Q => drawK P G call ops.toList tm h fun tm h => Q .normal tm h
  | .seq a b, tm, h, Q => self a tm h fun e tm h => match e with | .normal => self b tm h Q | e => Q e tm h
  | .cond c a b, tm, h, Q => match evO tm c with
    | some (.bool true) => self a tm h Q
    | some (.bool false) => self b tm h Q
    | _ => false
  | .block id b, tm, h, Q => self b tm h fun e tm h => match e with
    | .exit j => match Nat.beq j id with | true => Q .normal tm h | false => Q (.exit j) tm h
    | e => Q e tm h
  | .loop b, tm, h, Q => self b tm h fun e tm h => match e with | .normal => self (.loop b) tm h Q | e => Q e tm h
  | .exit id, tm, h, Q => Q (.exit id) tm h
  | .ret, tm, h, Q => Q .ret tm h
  | _, _, _, _ => false

def resultsK (P : Program) (G : Globs) (tm : TM) (h : Hp) : List ResultVar → Option (List Value)
  | [] => some []
  | .tmp t :: r => match resultsK P G tm h r with | some l => some (tm.get t :: l) | none => none
  | .cell a t :: r => match tm.get a with
    | .pointer (some a) => match loadE P G h t a, resultsK P G tm h r with | some v, some l => some (v :: l) | _, _ => none
    | _ => none

def endK (P : Program) (G : Globs) (fn : Func) (K : Value → Hp → Bool) : PostK := fun e tm h =>
  match e with
  | .normal | .ret => match resultsK P G tm h fn.results.toList with
    | some [v] => fV v fun v => K v h
    | some l => K (.tuple l.toArray) h
    | none => false
  | _ => false

/-- A part of a known result: a value that names no block, or a slice over new cells. -/
inductive RC where
  | flat (v : Value)
  | sl (cells : List Value) (elem : TypeId) (sz len cap : Nat)
/-- A known result: of one value, or a tuple. -/
structure Res where
  tup : Bool
  parts : List RC
/-- What is known of functions: a library function without a body at some arguments; a function's result at some arguments. -/
structure Known where
  ext : FuncId → List Value → Option Value
  res : FuncId → List Value → Option Res

def giveK (h : Hp) (acc : List Value) (K : List Value → Hp → Bool) : List RC → Bool
  | [] => K acc h
  | .flat v :: r => giveK h (acc ++ [v]) K r
  | .sl c e sz len cap :: r => h.pushK (.cells c e sz true) fun h' => giveK h' (acc ++ [newSlice h len cap]) K r

def enterK (P : Program) (G : Globs) (X : Known) (self : Code → TM → Hp → PostK → Bool) (f : FuncId) (args : List Value) (h : Hp) (K : Value → Hp → Bool) : Bool :=
  match X.res f args with
  | some r => giveK h [] (fun l h' => match r.tup, l with | true, l => K (.tuple l.toArray) h' | false, [v] => K v h' | _, _ => false) r.parts
  | none => match P.funcs[f]? with
    | some fn => match fn.body with
      | some c => match Nat.ble args.length fn.ntmps with
        | true => fNat fn.ntmps fun n => self c (mkTM n args) h (endK P G fn K)
        | false => false
      | none => match X.ext f args with
        | some v => K v h
        | none => false
    | none => false

/-- The run of a piece of code, at most so deep. -/
def runC (P : Program) (G : Globs) (X : Known) : Nat → Code → TM → Hp → PostK → Bool
  | 0 => fun _ _ _ _ => false
  | n + 1 => stepK P G (enterK P G X (runC P G X n)) (runC P G X n)
/-- The run of a function's body. -/
def runF (P : Program) (G : Globs) (X : Known) (n : Nat) (f : FuncId) (args : List Value) (K : Value → Hp → Bool) : Bool :=
  match P.funcs[f]? with
  | some fn => match fn.body with
    | some c => match Nat.ble args.length fn.ntmps with
      | true => runC P G X n c (mkTM fn.ntmps args) ⟨0, []⟩ (endK P G fn K)
      | false => false
    | none => false
  | none => false
end
end Go.CRun
