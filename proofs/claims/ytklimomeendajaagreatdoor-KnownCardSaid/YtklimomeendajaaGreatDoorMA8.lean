import Derived.Test.YtklimomeendajaaGreatDoorMA0
import GoSem.Core.Code
set_option linter.unusedVariables false
set_option linter.unusedSimpArgs false
/- Plain twin of package types (ab8cec4): the store, its types known by their places. none: n is used up, or a place is out of range, or a list is too long. -/
namespace Go.Proofs.YtklimomeendajaaGreatDoor

structure ND where
  k : Nat := 0
  op : Bool := false
  a : Int := 0
  b : Int := 0
  mrk : Int := 0
  nt : Int := 0

structure SX where
  ns : List ND
  wk : Int

def xAt (s : SX) (t : Int) : Option ND := if 0 ≤ t then s.ns[t.toNat]? else none
def xSet (s : SX) (t : Int) (n : ND) : SX := { s with ns := s.ns.set t.toNat n }
def xAdd (s : SX) (n : ND) : Option (SX × Int) := if s.ns.length < 2000000000 then some ({ s with ns := s.ns ++ [n] }, s.ns.length) else none
def xNew : SX := ⟨[{ k := 1 }, { k := 2 }], 0⟩

def xEnd (s : SX) : Nat → Int → Option Int
  | 0, _ => none
  | n + 1, t => (xAt s t).bind fun x => if x.k = 7 then xEnd s n x.a else some t

def xComp (e : Int) : Nat → SX → Int → Option SX
  | 0, _, _ => none
  | n + 1, s, t => if t = e then some s else (xAt s t).bind fun x => xComp e n (xSet s t { x with a := e }) x.a

def xFind (n : Nat) (s : SX) (t : Int) : Option (SX × Int) := (xEnd s n t).bind fun e => (xComp e n s t).bind fun s' => some (s', e)

/-- A type's parts: what stands for them. -/
def xParts (n : Nat) (s : SX) (t : Int) : Option (SX × List Int) := (xAt s t).bind fun x =>
  if x.k = 3 ∨ x.k = 4 then (xFind n s x.a).bind fun y => some (y.1, [y.2])
  else if x.k = 5 ∨ x.k = 6 then (xFind n s x.a).bind fun y => (xAt y.1 t).bind fun x2 => (xFind n y.1 x2.b).bind fun z => some (z.1, [y.2, z.2])
  else some (s, [])

def xLink (s : SX) (f t : Int) : SX := xSet s f { k := 7, a := t }

/-- Same; due: the last one first. -/
def xSame : Nat → SX → List (Int × Int) → Option (SX × Bool)
  | 0, _, _ => none
  | _ + 1, s, [] => some (s, true)
  | n + 1, s, c :: due => if 1000000000000 < due.length then none else (xFind n s c.1).bind fun x => (xFind n x.1 c.2).bind fun y =>
    if x.2 = y.2 then xSame n y.1 due else (xAt y.1 x.2).bind fun a => (xAt y.1 y.2).bind fun b =>
    if b.k = 0 then xSame n (xLink y.1 y.2 x.2) due
    else if a.k ≠ 0 ∧ a.k ≠ b.k then some (y.1, false)
    else if a.k = 3 ∨ a.k = 4 then xSame n (xLink y.1 x.2 y.2) ((a.a, b.a) :: due)
    else if a.k = 5 ∨ a.k = 6 then xSame n (xLink y.1 x.2 y.2) ((a.b, b.b) :: (a.a, b.a) :: due)
    else xSame n (xLink y.1 x.2 y.2) due

/-- What of the parts is due, and whether none is opened. -/
def xDue (s : SX) (o : Int) : List Int → List Int → Bool → Option (List Int × Bool)
  | [], due, ok => some (due, ok)
  | p :: l, due, ok => (xAt s p).bind fun x => if x.mrk = o then xDue s o l due false else xDue s o l (p :: due) ok

def xWalkL (o : Int) : Nat → SX → List Int → List Int → Bool → Option (SX × List Int × Bool)
  | 0, _, _, _, _ => none
  | _ + 1, s, [], done, ok => some (s, done, ok)
  | n + 1, s, t :: due, done, ok => if 1000000000000 < due.length + done.length then none else (xAt s t).bind fun x =>
    if x.mrk = o + 1 then xWalkL o n s due done ok
    else if x.mrk = o then xWalkL o n (xSet s t { x with mrk := o + 1 }) due (done ++ [t]) ok
    else (xParts n (xSet s t { x with mrk := o }) t).bind fun p => (xDue p.1 o p.2 (t :: due) ok).bind fun q => xWalkL o n p.1 q.1 done q.2

def xWalk (n : Nat) (s : SX) (t : Int) : Option (SX × List Int × Bool) := (xFind n s t).bind fun x => xWalkL (2 * s.wk) n x.1 [x.2] [] true
/-- One walk more: they are few. -/
def xTick (s : SX) : Option SX := if s.wk < 1000000000 then some { s with wk := s.wk + 1 } else none
def xInside (n : Nat) (s : SX) (t : Int) : Option (SX × List Int × Bool) := (xTick s).bind fun s' => xWalk n s' t

def xNote (v : Int) : List Int → SX → Option SX
  | [], s => some s
  | t :: l, s => (xAt s t).bind fun x => xNote v l (xSet s t { x with nt := v })

def xHeld (n : Nat) : List Int → SX → Option SX
  | [], s => some s
  | t :: l, s => (xWalk n s t).bind fun x => (xNote 1 x.2.1 x.1).bind fun s' => xHeld n l s'

/-- If one of the parts is open, so is t. -/
def xAnyO (t : Int) : List Int → SX → Option SX
  | [], s => some s
  | p :: l, s => (xAt s p).bind fun x => if x.op then (xAt s t).bind fun y => xAnyO t l (xSet s t { y with op := true }) else xAnyO t l s

def xOpenL (n : Nat) : List Int → SX → Option SX
  | [], s => some s
  | t :: l, s => (xAt s t).bind fun x => (xParts n (xSet s t { x with op := decide (x.k = 0) && decide (x.nt = 0) }) t).bind fun p =>
    (xAnyO t p.2 p.1).bind fun s2 => xOpenL n l s2

def xOpen (n : Nat) (s : SX) (t : Int) (fixed : List Int) : Option (SX × Bool) := (xInside n s t).bind fun x =>
  if x.2.2 then (xNote 0 x.2.1 x.1).bind fun s1 => (xTick s1).bind fun s1 => (xHeld n fixed s1).bind fun s2 => (xOpenL n x.2.1 s2).bind fun s3 => some (s3, true)
  else some (x.1, false)

def xNoteOf (s : SX) (t : Int) : Option Int := (xAt s t).bind fun x => some x.nt

def xCopied (n : Nat) (s : SX) (t : Int) : Option (SX × Int) := (xAt s t).bind fun x => (xParts n s t).bind fun p =>
  match p.2 with
  | [] => xAdd p.1 { k := x.k }
  | [u] => (xNoteOf p.1 u).bind fun i => xAdd p.1 { k := x.k, a := i }
  | u :: v :: _ => (xNoteOf p.1 u).bind fun i => (xNoteOf p.1 v).bind fun j => xAdd p.1 { k := x.k, a := i, b := j }

def xCopies (n : Nat) : List Int → SX → Option SX
  | [], s => some s
  | t :: l, s => (xAt s t).bind fun x =>
    if x.op then (xCopied n (xSet s t { x with nt := t }) t).bind fun y => (xAt y.1 t).bind fun z => xCopies n l (xSet y.1 t { z with nt := y.2 })
    else xCopies n l (xSet s t { x with nt := t })

def xInst (n : Nat) (s : SX) (t : Int) : Option (SX × Int) := (xFind n s t).bind fun r => (xAt r.1 r.2).bind fun x =>
  if x.op then (xInside n r.1 r.2).bind fun i => (xCopies n i.2.1 i.1).bind fun s2 => (xNoteOf s2 r.2).bind fun v => some (s2, v)
  else some (r.1, t)

def xSoundL (n : Nat) : Nat → Int → SX → Option (SX × Bool)
  | 0, _, s => some (s, true)
  | k + 1, i, s => (xWalk n s i).bind fun x => if x.2.2 then xSoundL n k (i + 1) x.1 else some (x.1, false)
def xSound (n : Nat) (s : SX) : Option (SX × Bool) := (xTick s).bind fun s => xSoundL n s.ns.length 0 s

/-- The notes of the parts are added to that of t. -/
def xAddN (t : Int) : List Int → SX → Option SX
  | [], s => some s
  | p :: l, s => (xAt s p).bind fun x => (xAt s t).bind fun y => if -2147483648 ≤ y.nt + x.nt ∧ y.nt + x.nt ≤ 2147483647 then xAddN t l (xSet s t { y with nt := y.nt + x.nt }) else none

def xLens (n : Nat) : List Int → SX → Option SX
  | [], s => some s
  | t :: l, s => (xAt s t).bind fun x => (xParts n (xSet s t { x with nt := 1 }) t).bind fun p => (xAddN t p.2 p.1).bind fun s2 => (xAt s2 t).bind fun y => xLens n l (if 1024 < y.nt then xSet s2 t { y with nt := 1024 } else s2)

def xLength (n : Nat) (s : SX) (t : Int) : Option (SX × Int) := (xInside n s t).bind fun x =>
  if x.2.2 then (xLens n x.2.1 x.1).bind fun s1 => (xFind n s1 t).bind fun r => (xNoteOf r.1 r.2).bind fun v => if 0 ≤ v ∧ v ≤ 1024 then some (r.1, v) else none
  else some (x.1, 1024)

/-- The text of a type; us: the unknown ones that were written. -/
def xWrite : Nat → SX → Int → List Int → List UInt8 → Option (SX × List Int × List UInt8)
  | 0, _, _, _, _ => none
  | n + 1, s, t, us, o => if 1000000000 < us.length + o.length then none else (xParts n s t).bind fun p => (xAt p.1 t).bind fun x =>
    if x.k = 1 then some (p.1, us, o ++ [105, 110, 116])
    else if x.k = 2 then some (p.1, us, o ++ [98, 111, 111, 108])
    else if x.k = 3 then (xWrite n p.1 (p.2.getD 0 0) us o).bind fun y => some (y.1, y.2.1, y.2.2 ++ [32, 108, 105, 115, 116])
    else if x.k = 4 then (xWrite n p.1 (p.2.getD 0 0) us o).bind fun y => some (y.1, y.2.1, y.2.2 ++ [32, 99, 111, 110, 116])
    else if x.k = 5 ∨ x.k = 6 then (xWrite n p.1 (p.2.getD 0 0) us (o ++ [40])).bind fun y => (xWrite n y.1 (p.2.getD 1 0) y.2.1 (y.2.2 ++ (if x.k = 5 then [32, 42, 32] else [32, 45, 62, 32]))).bind fun z => some (z.1, z.2.1, z.2.2 ++ [41])
    else if x.k = 0 then some (p.1, (if us.contains t then us else us ++ [t]), o ++ [39, UInt8.ofNat (97 + us.idxOf t % 26)])
    else some (p.1, us, o)

def xText (n : Nat) (s : SX) (t : Int) : Option (List UInt8) := (xLength n s t).bind fun x =>
  if x.2 > 1023 then some [46, 46] else (xFind n x.1 t).bind fun r => (xWrite n r.1 r.2 [] []).bind fun y => some y.2.2
end Go.Proofs.YtklimomeendajaaGreatDoor

/- The text of a type, plain, with a bound on its length. -/
namespace Go.Proofs.YtklimomeendajaaGreatDoor

def xWr : Nat → SX → Int → List Int → List UInt8 → Option (SX × List Int × List UInt8)
  | 0, _, _, _, _ => none
  | n + 1, s, t, us, o => if 1000000000 < us.length + o.length then none else (xParts n s t).bind fun p => (xAt p.1 t).bind fun x =>
    if x.k = 1 then some (p.1, us, o ++ [105, 110, 116])
    else if x.k = 2 then some (p.1, us, o ++ [98, 111, 111, 108])
    else if x.k = 3 then (xWr n p.1 (p.2.getD 0 0) us o).bind fun y => if 1000000000 < y.2.2.length then none else some (y.1, y.2.1, y.2.2 ++ [32, 108, 105, 115, 116])
    else if x.k = 4 then (xWr n p.1 (p.2.getD 0 0) us o).bind fun y => if 1000000000 < y.2.2.length then none else some (y.1, y.2.1, y.2.2 ++ [32, 99, 111, 110, 116])
    else if x.k = 5 ∨ x.k = 6 then (xWr n p.1 (p.2.getD 0 0) us (o ++ [40])).bind fun y => if 1000000000 < y.2.2.length then none else (xWr n y.1 (p.2.getD 1 0) y.2.1 (y.2.2 ++ (if x.k = 5 then [32, 42, 32] else [32, 45, 62, 32]))).bind fun z => if 1000000000 < z.2.2.length then none else some (z.1, z.2.1, z.2.2 ++ [41])
    else if x.k = 0 then some (p.1, (if us.contains t then us else us ++ [t]), o ++ [39, UInt8.ofNat (97 + us.idxOf t % 26)])
    else some (p.1, us, o)

def xTxt (n : Nat) (s : SX) (t : Int) : Option (List UInt8) := (xLength n s t).bind fun x =>
  if x.2 > 1023 then some [46, 46] else (xFind n x.1 t).bind fun r => (xWr n r.1 r.2 [] []).bind fun y => some y.2.2
end Go.Proofs.YtklimomeendajaaGreatDoor

/- Plain twins of scope.Find (with what the names mean) and of package typing (ab8cec4). -/
namespace Go.Proofs.YtklimomeendajaaGreatDoor

section
variable (t : RS)

structure FX where
  s : SX
  nms : List Int
  wr : Bool

variable (ms : List Int)

def geti (l : List Int) (i : Int) : Option Int := if 0 ≤ i then l[i.toNat]? else none

def yNew (f : FX) (n : ND) : Option (FX × Int) := (xAdd f.s n).bind fun x => some ({ f with s := x.1 }, x.2)
def ySame (n : Nat) (f : FX) (l r : Int) : Option FX := (xSame n f.s [(l, r)]).bind fun x => some { f with s := x.1, wr := f.wr || !x.2 }
/-- A name has a type. -/
def yName (f : FX) (b t : Int) : Option FX := if 0 ≤ b ∧ b.toNat < f.nms.length then some { f with nms := f.nms.set b.toNat t } else none
/-- One more type among those of the names around. -/
def yFix (f : FX) (fx : List Int) (b t : Int) : Option (FX × List Int) := if fx.length ≤ 1000000000 then (yName f b t).bind fun g => some (g, fx ++ [t]) else none
def yOpen (n : Nat) (f : FX) (fx : List Int) (b : Int) : Option FX := (geti f.nms b).bind fun t => (xOpen n f.s t fx).bind fun x => some { f with s := x.1, wr := f.wr || !x.2 }

def yVal : Nat → Int → Option Bool
  | 0, _ => none
  | n + 1, i => (expAt t i).bind fun e => if e.kind = 4 ∨ e.kind = 1 ∨ e.kind = 2 ∨ e.kind = 3 ∨ e.kind = 5 ∨ e.kind = 12 then some true
    else if e.kind = 7 ∨ e.kind = 8 then (yVal n e.first).bind fun x => if x then yVal n e.second else some false else some false

def yPat : Nat → FX → List Int → Int → Option (FX × List Int × Int)
  | 0, _, _, _ => none
  | n + 1, f, fx, i => (patAt t i).bind fun p =>
    if p.kind = 1 then some (f, fx, 0) else if p.kind = 2 ∨ p.kind = 3 then some (f, fx, 1)
    else if p.kind = 5 then (yNew f {}).bind fun x => (yNew x.1 { k := 3, a := x.2 }).bind fun y => some (y.1, fx, y.2)
    else if p.kind = 7 then (yPat n f fx p.first).bind fun x => (yPat n x.1 x.2.1 p.second).bind fun y => (yNew y.1 { k := 5, a := x.2.2, b := y.2.2 }).bind fun z => some (z.1, y.2.1, z.2)
    else if p.kind = 8 then (yPat n f fx p.first).bind fun x => (yNew x.1 { k := 3, a := x.2.2 }).bind fun l => (yPat n l.1 x.2.1 p.second).bind fun y => (ySame n y.1 y.2.2 l.2).bind fun g => some (g, y.2.1, l.2)
    else (yNew f {}).bind fun x => if p.kind = 4 then (yFix x.1 fx p.binder x.2).bind fun g => some (g.1, g.2, x.2) else some (x.1, fx, x.2)

section
variable (n : Nat) (R : FX → List Int → Int → Option (FX × Int))

def yWant (f : FX) (fx : List Int) (i ty : Int) : Option FX := (R f fx i).bind fun x => ySame n x.1 x.2 ty
def yWithin (f : FX) (fx : List Int) (b ty body : Int) : Option (FX × Int) := (yFix f fx b ty).bind fun g => R g.1 g.2 body

def yFuns : List (Int × Int × Int) → FX → List Int → List Int → Option (FX × List Int × List Int)
  | [], f, fx, rs => some (f, fx, rs)
  | g :: l, f, fx, rs => if 1000000000 < rs.length then none else (yNew f {}).bind fun a => (yNew a.1 {}).bind fun b => (yNew b.1 { k := 6, a := a.2, b := b.2 }).bind fun c =>
    (yFix c.1 fx g.1 c.2).bind fun d => (yName d.1 g.2.1 a.2).bind fun f' => yFuns l f' d.2 (rs ++ [b.2])
def yBodies : List (Int × Int × Int) → List Int → FX → List Int → Option FX
  | [], _, f, _ => some f
  | g :: l, r :: rs, f, fx => (yWant n R f fx g.2.2 r).bind fun f' => yBodies l rs f' fx
  | _ :: _, [], _, _ => none
def yOpens (fx : List Int) : List (Int × Int × Int) → FX → Option FX
  | [], f => some f
  | g :: l, f => (yOpen n f fx g.1).bind fun f' => yOpens fx l f'
def yArms (v r : Int) (fx : List Int) : List (Int × Int) → FX → Option FX
  | [], f => some f
  | a :: l, f => (yPat t n f fx a.1).bind fun x => (ySame n x.1 v x.2.2).bind fun g => (yWant n R g x.2.1 a.2 r).bind fun h => yArms v r fx l h

def yE (f : FX) (fx : List Int) (i : Int) (e : EX) : Option (FX × Int) :=
  if e.kind = 1 ∨ e.kind = 9 then some (f, 0) else if e.kind = 2 ∨ e.kind = 3 then some (f, 1)
  else if e.kind = 4 then (geti ms i).bind fun b => (geti f.nms b).bind fun t => (xInst n f.s t).bind fun x => some ({ f with s := x.1 }, x.2)
  else if e.kind = 5 then (yNew f {}).bind fun x => yNew x.1 { k := 3, a := x.2 }
  else if e.kind = 7 then (R f fx e.first).bind fun x => (R x.1 fx e.second).bind fun y => yNew y.1 { k := 5, a := x.2, b := y.2 }
  else if e.kind = 8 then (R f fx e.first).bind fun x => (yNew x.1 { k := 3, a := x.2 }).bind fun l => (yWant n R l.1 fx e.second l.2).bind fun g => some (g, l.2)
  else if e.kind = 16 ∨ e.kind = 17 then (yWant n R f fx e.first 0).bind fun g => (yWant n R g fx e.second 0).bind fun h => some (h, 1)
  else if e.kind = 18 ∨ e.kind = 19 ∨ e.kind = 20 ∨ e.kind = 21 then (yWant n R f fx e.first 0).bind fun g => (yWant n R g fx e.second 0).bind fun h => some (h, 0)
  else if e.kind = 24 then (yWant n R f fx e.first 0).bind fun g => some (g, 0)
  else if e.kind = 22 then (yWant n R f fx e.first 0).bind fun g => yNew g {}
  else if e.kind = 10 then (R f fx e.first).bind fun x => (yVal t n e.first).bind fun v =>
    if v then (yName x.1 e.binder x.2).bind fun g => (yOpen n g fx e.binder).bind fun g => R g fx e.second else yWithin R x.1 fx e.binder x.2 e.second
  else if e.kind = 11 then (yFuns e.funs f fx []).bind fun x => (yBodies n R e.funs x.2.2 x.1 x.2.1).bind fun g => (yOpens n fx e.funs g).bind fun h => R h fx e.first
  else if e.kind = 12 then (yNew f {}).bind fun a => (yWithin R a.1 fx e.binder a.2 e.first).bind fun r => yNew r.1 { k := 6, a := a.2, b := r.2 }
  else if e.kind = 13 then (yWant n R f fx e.first 1).bind fun g => (R g fx e.second).bind fun r => (yWant n R r.1 fx e.third r.2).bind fun h => some (h, r.2)
  else if e.kind = 14 then (R f fx e.first).bind fun v => (yNew v.1 {}).bind fun r => (yArms t n R v.2 r.2 fx e.arms r.1).bind fun g => some (g, r.2)
  else if e.kind = 15 then (R f fx e.first).bind fun r => (yWithin R r.1 fx e.binder 0 e.second).bind fun c => (ySame n c.1 r.2 c.2).bind fun g => some (g, r.2)
  else if e.kind = 23 then (yNew f {}).bind fun r => (yNew r.1 { k := 4, a := r.2 }).bind fun k => (yNew k.1 { k := 6, a := k.2, b := r.2 }).bind fun w => (yWant n R w.1 fx e.first w.2).bind fun g => some (g, r.2)
  else if e.kind = 25 then (R f fx e.first).bind fun c => (R c.1 fx e.second).bind fun v => (yNew v.1 { k := 4, a := v.2 }).bind fun w => (ySame n w.1 c.2 w.2).bind fun g => yNew g {}
  else (R f fx e.first).bind fun c => (R c.1 fx e.second).bind fun a => (yNew a.1 {}).bind fun r => (yNew r.1 { k := 6, a := a.2, b := r.2 }).bind fun w => (ySame n w.1 c.2 w.2).bind fun g => some (g, r.2)
end

def yExp (N : Nat) : Nat → FX → List Int → Int → Option (FX × Int)
  | 0, _, _, _ => none
  | n + 1, f, fx, i => (expAt t i).bind fun e => yE t ms N (yExp N n) f fx i e

/-- typing.Find: the type's text, if there is one. -/
def yFind (N : Nat) (root : Int) : Option (Option (List UInt8)) :=
  (yExp t ms N N ⟨xNew, t.bnds.map fun _ => 0, false⟩ [] root).bind fun x =>
  if x.1.wr then some none else (xSound N x.1.s).bind fun y => if y.2 then (xTxt N y.1 x.2).bind fun o => some (some o) else some none
end

/-- Which binders the names use. -/
def kUsed (nb : Nat) : List Int → List Bool → Option (List Bool)
  | [], u => some u
  | m :: l, u => if m = -1 then kUsed nb l u else if 0 ≤ m ∧ m.toNat < nb then kUsed nb l (u.set m.toNat true) else none

/-- A part of a list, if there is one. -/
def seg (l : List Int) (a b : Int) : Option (List Int) := if 0 ≤ a ∧ a ≤ b ∧ b.toNat ≤ l.length then some ((l.take b.toNat).drop a.toNat) else none

/-- scope.Kept: for the expressions from here on; st: where the parts of those before begin. -/
def kKept (nb : Nat) (ms : List Int) : List EX → List Int → List (List Bool) → Option (List (List Bool))
  | [], _, ks => some ks
  | e :: l, st, ks =>
    if e.kind = 1 ∨ e.kind = 2 ∨ e.kind = 3 ∨ e.kind = 4 ∨ e.kind = 5 ∨ e.kind = 9 then kKept nb ms l (st ++ [(st.length : Int)]) (ks ++ [[]])
    else if e.kind = 11 then (match e.funs with
      | [] => none
      | g :: _ => (geti st g.2.2).bind fun a => (geti st e.first).bind fun b => (seg ms a b).bind fun m => (kUsed nb m (List.replicate nb false)).bind fun u => kKept nb ms l (st ++ [a]) (ks ++ [u]))
    else if e.kind = 12 then (geti st e.first).bind fun a => (seg ms a st.length).bind fun m => (kUsed nb m (List.replicate nb false)).bind fun u => kKept nb ms l (st ++ [a]) (ks ++ [u])
    else (geti st e.first).bind fun a => kKept nb ms l (st ++ [a]) (ks ++ [[]])

/-- What the names mean. -/
def mOf (t : RS) (g : Ed) : List Int := apE g.2 (t.exps.map fun _ => -1)

/-- Compile, plain: its error, and the type's text. -/
def yComp (n : Nat) (t : List UInt8) : Option (Int × List UInt8) :=
  (cErr n t).bind fun e => if e ≠ 0 then some (e, []) else
  (sSplit t n ⟨0, [], []⟩).bind fun x => (rdr x.1 n 0 rs0).bind fun r => (gExp r.1 n r.2 []).bind fun g => (yFind r.1 (mOf r.1 g) n r.2).bind fun o =>
  match o with
  | none => some (5, [])
  | some o => (kKept r.1.bnds.length (mOf r.1 g) r.1.exps [] []).bind fun _ => some (0, o)
end Go.Proofs.YtklimomeendajaaGreatDoor

/- Plain twin of packages values and machine (ab8cec4). What a run holds is a Code: a number, a pair of two, nothing. -/
namespace Go.Proofs.YtklimomeendajaaGreatDoor

def cN (n : Int) : Code := .cond (.const (.int .i64 n)) .skip .skip
def cP (a b : Code) : Code := .seq a b
def nOf : Code → Int
  | .cond (.const (.int _ n)) _ _ => n
  | _ => 0
def fstC : Code → Code
  | .seq a _ => a
  | _ => .skip
def sndC : Code → Code
  | .seq _ b => b
  | _ => .skip
def isC : Code → Bool
  | .seq _ _ => true
  | _ => false

/-- A value, field by field: kind (1 number, 2 truth, 3 list, 4 pair, 5 function, 6 continuation), number, parts, parameter, body, sight, waits. -/
def vMk (k n : Int) (pa : Code) (pr bd : Int) (sg wt : Code) : Code := cP (cN k) (cP (cN n) (cP pa (cP (cN pr) (cP (cN bd) (cP sg wt)))))
def v0 : Code := vMk 0 0 .skip 0 0 .skip .skip
def vNum (n : Int) : Code := vMk 1 n .skip 0 0 .skip .skip
def vTru (b : Bool) : Code := vMk 2 (if b then 1 else 0) .skip 0 0 .skip .skip
def vLst (p : Code) : Code := vMk 3 0 p 0 0 .skip .skip
def vPar (p : Code) : Code := vMk 4 0 p 0 0 .skip .skip
def vFun (param body : Int) (sight : Code) : Code := vMk 5 0 .skip param body sight .skip
def vCnt (w : Code) : Code := vMk 6 0 .skip 0 0 .skip w
def vK (v : Code) : Int := nOf (fstC v)
def vN (v : Code) : Int := nOf (fstC (sndC v))
def vParts (v : Code) : Code := fstC (sndC (sndC v))
def vFp (v : Code) : Int := nOf (fstC (sndC (sndC (sndC v))))
def vFb (v : Code) : Int := nOf (fstC (sndC (sndC (sndC (sndC v)))))
def vFs (v : Code) : Code := fstC (sndC (sndC (sndC (sndC (sndC v)))))
def vWs (v : Code) : Code := sndC (sndC (sndC (sndC (sndC (sndC v)))))

/-- A name in sight, or the functions of a let rec: binder, let rec, value, own. -/
def sMk (b l : Int) (v o nx : Code) : Code := cP (cP (cN b) (cP (cN l) (cP v o))) nx
def sB (s : Code) : Int := nOf (fstC (fstC s))
def sL (s : Code) : Int := nOf (fstC (sndC (fstC s)))
def sV (s : Code) : Code := fstC (sndC (sndC (fstC s)))
def sO (s : Code) : Code := sndC (sndC (sndC (fstC s)))

/-- What waits: expression, whether for the second part, the first one's value, sight. -/
def wMk (i : Int) (b : Bool) (v sg nx : Code) : Code := cP (cP (cN i) (cP (cN (if b then 1 else 0)) (cP v sg))) nx
def wE (w : Code) : Int := nOf (fstC (fstC w))
def wB (w : Code) : Int := nOf (fstC (sndC (fstC w)))
def wV (w : Code) : Code := fstC (sndC (sndC (fstC w)))
def wS (w : Code) : Code := sndC (sndC (sndC (fstC w)))

/-- For the kernel's sake: a number is reckoned ahead of its use. -/
def forceN {α : Type} (k : Nat) (f : Nat → α) : α := match k with
  | 0 => f 0
  | j + 1 => f (j + 1)
def forceI {α : Type} (n : Int) (f : Int → α) : α := match n with
  | .ofNat k => forceN k fun k => f (.ofNat k)
  | .negSucc k => forceN k fun k => f (.negSucc k)
def forceC {α : Type} (c : Code) (f : Code → α) : α := match c with
  | .skip => f .skip
  | .seq a b => f (.seq a b)
  | c => f c

def forceL {α β : Type} (l : List β) (f : List β → α) : α := match l with
  | [] => f []
  | x :: l => f (x :: l)
def forceB {α : Type} (b : Bool) (f : Bool → α) : α := match b with
  | true => f true
  | false => f false

structure MX where
  inp : List Int
  lk : Bool
  ex : Int
  sg : Code
  val : Code
  wt : Code
  st : Int
  tx : List UInt8
  pr : List Int
  jm : Int

def wrap32 (n : Int) : Int := (n + 2147483648).emod 4294967296 - 2147483648

def in64 (n : Int) : Bool := decide (-9223372036854775808 ≤ n) && decide (n ≤ 9223372036854775807)
def in32 (n : Int) : Bool := decide (-2147483648 ≤ n) && decide (n ≤ 2147483647)

def decN : Nat → Nat → List UInt8 → List UInt8
  | 0, _, o => o
  | f + 1, n, o => if n < 10 then UInt8.ofNat (48 + n) :: o else decN f (n / 10) (UInt8.ofNat (48 + n % 10) :: o)
def decI (n : Int) : List UInt8 := if n < 0 then 45 :: decN 25 n.natAbs [] else decN 25 n.natAbs []

/-- The text of a value: what was written, and how many parts. The second: a list's elements from here on, and the sign ahead of the next. -/
def vWr : Nat → Option (List UInt8) → Code → List UInt8 × Nat → Option (List UInt8 × Nat)
  | 0, _, _, _ => none
  | f + 1, some sign, v, o => if 1000000000 < o.1.length ∨ 1000000000 < o.2 then none else if isC (vParts v) && decide (o.2 ≤ 1023) then (vWr f none (fstC (vParts v)) (o.1 ++ sign, o.2)).bind fun x => vWr f (some [44]) (sndC (vParts v)) x else some o
  | f + 1, none, v, o =>
    if 1000000000 < o.1.length ∨ 1000000000 < o.2 then none
    else if 1023 < o.2 + 1 then some (o.1, o.2 + 1)
    else if vK v = 1 then if in64 (vN v) then some (o.1 ++ decI (vN v), o.2 + 1) else none
    else if vK v = 2 then some (o.1 ++ (if vN v = 1 then [116, 114, 117, 101] else [102, 97, 108, 115, 101]), o.2 + 1)
    else if vK v = 3 then (vWr f (some []) v (o.1 ++ [91], o.2 + 1)).bind fun x => if 1000000000 < x.1.length then none else some (x.1 ++ [93], x.2)
    else if vK v = 4 then if isC (vParts v) = false then none else (vWr f none (fstC (vParts v)) (o.1 ++ [40], o.2 + 1)).bind fun x => (vWr f none (sndC (vParts v)) (x.1 ++ [44], x.2)).bind fun y => if 1000000000 < y.1.length then none else some (y.1 ++ [41], y.2)
    else if vK v = 5 then some (o.1 ++ [102, 110], o.2 + 1)
    else if vK v = 6 then some (o.1 ++ [99, 111, 110, 116], o.2 + 1)
    else some (o.1, o.2 + 1)

def vText (f : Nat) (v : Code) : Option (List UInt8) := (vWr f none v ([], 0)).bind fun x => some (if 1023 < x.2 then [46, 46] else x.1)

section
variable (t : RS) (ms : List Int) (kp : List (List Bool)) (f : Nat)

def kEnd (m : MX) (st : Int) (tx : List UInt8) : MX := { m with st := st, tx := tx, inp := [], sg := .skip, val := v0, wt := .skip }
def kLook (m : MX) (i : Int) (sg : Code) : MX := { m with lk := true, ex := i, sg := sg }
def kGo (m : MX) (v : Code) : Option MX := if isC m.wt then some { m with lk := false, val := v } else (vText f v).bind fun x => some (kEnd m 1 x)
def kNum (m : MX) (n : Int) : Option MX := forceI (wrap32 n) fun n => kGo f m (vNum n)
def kTruth (m : MX) (b : Bool) : Option MX := kGo f m (vTru b)
def cBind (b : Int) (v sg : Code) : Code := sMk b 0 v .skip sg
def kIn (m : MX) (sg : Code) (b : Int) (v : Code) (i : Int) : MX := kLook m i (cBind b v sg)
def kCall (m : MX) (g a : Code) : MX := kIn m (vFs g) (vFp g) a (vFb g)

/-- The functions of a let rec with what they remember alone. -/
def kOwn (s : Code) : Code := if isC (sO s) then sO s else s

def getb (l : List Bool) (i : Int) : Option Bool := if 0 ≤ i then l[i.toNat]? else none

def kAny (u : List Bool) : List (Int × Int × Int) → Option Bool
  | [] => some false
  | g :: l => (getb u g.1).bind fun b => if b then some true else kAny u l

/-- What a function remembers of what is in sight. -/
def kKeep (u : List Bool) : Code → Code → Option Code
  | .seq e nx, k => if sB (.seq e nx) = -1 then (expAt t (sL (.seq e nx))).bind fun x => (kAny u x.funs).bind fun b => (if b then kKeep u nx (sMk (-1) (sL (.seq e nx)) v0 (kOwn (.seq e nx)) k) else kKeep u nx k)
    else (getb u (sB (.seq e nx))).bind fun b => if b then kKeep u nx (cBind (sB (.seq e nx)) (sV (.seq e nx)) k) else kKeep u nx k
  | _, k => some k

/-- The value of a name, if it is in sight. -/
def kName (b : Int) : Code → Option (Option Code)
  | .seq e nx => if sB (.seq e nx) = b then some (some (sV (.seq e nx))) else if sB (.seq e nx) = -1 then (expAt t (sL (.seq e nx))).bind fun x => (match x.funs.find? fun g => g.1 == b with
    | some g => some (some (vFun g.2.1 g.2.2 (kOwn (.seq e nx))))
    | none => kName b nx) else kName b nx
  | _ => some none

def kRaise (m : MX) (n : Int) : Code → Option MX
  | .seq w nx => (expAt t (wE (.seq w nx))).bind fun e => if e.kind = 15 then some (kIn { m with wt := nx } (wS (.seq w nx)) e.binder (vNum n) e.second) else kRaise m n nx
  | _ => if in64 n then some (kEnd m 2 (decI n)) else none

/-- A pattern: what is in sight behind it, if it fits. -/
def kFit : Nat → Int → Code → Code → Option (Option Code)
  | 0, _, _, _ => none
  | n + 1, i, v, sg => (patAt t i).bind fun p =>
    if p.kind = 1 then some (if vN v = p.num then some sg else none)
    else if p.kind = 2 then some (if vN v = 1 then some sg else none)
    else if p.kind = 3 then some (if vN v = 0 then some sg else none)
    else if p.kind = 5 then some (if isC (vParts v) then none else some sg)
    else if p.kind = 4 then some (some (cBind p.binder v sg))
    else if p.kind = 7 ∨ p.kind = 8 then (if isC (vParts v) then (kFit n p.first (fstC (vParts v)) sg).bind fun x => (match x with
      | none => some none
      | some sg' => kFit n p.second (sndC (vParts v)) sg') else some none)
    else some (some sg)

def kMatch (v sg : Code) : List (Int × Int) → MX → Option MX
  | [], m => kRaise t m (-2) m.wt
  | a :: l, m => (kFit t f a.1 v sg).bind fun x => (match x with
    | some sg' => some (kLook m a.2 sg')
    | none => kMatch v sg l m)

def kBoth (m : MX) (k : Int) (a b : Code) : Option MX :=
  if k = 26 then some (kCall m a b)
  else if k = 25 then kGo f { m with wt := vWs a } b
  else if k = 7 then kGo f m (vPar (cP a b))
  else if k = 8 then kGo f m (vLst (cP a b))
  else if k = 16 then kTruth f m (decide (vN a = vN b))
  else if k = 17 then kTruth f m (decide (vN a < vN b))
  else if (in32 (vN a) && in32 (vN b)) = false then none
  else if k = 18 then kNum f m (vN a + vN b)
  else if k = 19 then kNum f m (vN a - vN b)
  else if k = 20 then kNum f m (vN a * vN b)
  else if k = 21 then (if vN b = 0 then kRaise t m (-1) m.wt else kNum f m ((vN a).tdiv (vN b)))
  else some m

def kStepL (m : MX) : Option MX := (expAt t m.ex).bind fun e =>
  if e.kind = 1 then kNum f m e.num
  else if e.kind = 2 ∨ e.kind = 3 then kTruth f m (decide (e.kind = 2))
  else if e.kind = 5 then kGo f m (vLst .skip)
  else if e.kind = 4 then (geti ms m.ex).bind fun b => (kName t b m.sg).bind fun v => (match v with
    | some v => kGo f m v
    | none => some m)
  else if e.kind = 12 then (kp[m.ex.toNat]?).bind fun u => (kKeep t u m.sg .skip).bind fun k => forceC k fun k => kGo f m (vFun e.binder e.first k)
  else if e.kind = 9 then (match m.inp with
    | [] => some (kEnd m 3 [])
    | n :: l => kNum f { m with inp := l } n)
  else if e.kind = 11 then (kp[m.ex.toNat]?).bind fun u => (kKeep t u m.sg .skip).bind fun k => forceC k fun k => some (kLook m e.first (sMk (-1) m.ex v0 (sMk (-1) m.ex v0 .skip k) m.sg))
  else some (kLook { m with wt := wMk m.ex false v0 m.sg m.wt } e.first m.sg)

def kStepB (m0 : MX) : Option MX := if isC m0.wt = false then none else (expAt t (wE m0.wt)).bind fun e =>
  let m : MX := { m0 with wt := sndC m0.wt }
  let v := m0.val
  let sg := wS m0.wt
  if e.kind = 10 then some (kIn m sg e.binder v e.second)
  else if e.kind = 13 then some (kLook m (if vN v = 1 then e.second else e.third) sg)
  else if e.kind = 14 then kMatch t f v sg e.arms m
  else if e.kind = 15 then kGo f m v
  else if e.kind = 22 then kRaise t m (vN v) m.wt
  else if e.kind = 24 then (if 1000000000000 < m.pr.length then none else kGo f { m with pr := m.pr ++ [vN v] } v)
  else if e.kind = 23 then some (kCall m v (vCnt m.wt))
  else if wB m0.wt = 1 then kBoth t f m e.kind (wV m0.wt) v
  else some (kLook { m with wt := wMk (wE m0.wt) true v .skip m.wt } e.second sg)

def kGoes : Nat → MX → Option MX
  | 0, m => some m
  | n + 1, m => if m.jm < 0 ∨ 1000000000000000 < m.jm then none else if m.st = 0 then (if m.lk then kStepL t ms kp f { m with jm := m.jm + 1 } else kStepB t f { m with jm := m.jm + 1 }).bind fun m' => forceI m'.jm fun j => forceI m'.ex fun i => forceC m'.wt fun w => forceC m'.sg fun sg => forceC m'.val fun v => forceL m'.inp fun inp => forceB m'.lk fun lk => forceI m'.st fun st => forceL m'.tx fun tx => forceL m'.pr fun pr => kGoes n ⟨inp, lk, i, sg, v, w, st, tx, pr, j⟩ else some m
end

def kStart (root : Int) (inp : List Int) : MX := ⟨inp, true, root, .skip, v0, .skip, 0, [], [], 0⟩

/-- A text, compiled and run: its error, its type, how it stands. -/
def kRun (n : Nat) (t : List UInt8) (inp : List Int) (fuel : Nat) : Option (Int × List UInt8 × Int × List UInt8 × List Int × Int) :=
  (yComp n t).bind fun e => if e.1 ≠ 0 then some (e.1, [], 0, [], [], 0) else
  (sSplit t n ⟨0, [], []⟩).bind fun x => (rdr x.1 n 0 rs0).bind fun r => (gExp r.1 n r.2 []).bind fun g => let m := mOf r.1 g;
  (kKept r.1.bnds.length m r.1.exps [] []).bind fun kp => (kGoes r.1 m kp n fuel (kStart r.2 inp)).bind fun k => some (0, e.2, k.st, k.tx, k.pr, k.jm)
end Go.Proofs.YtklimomeendajaaGreatDoor
