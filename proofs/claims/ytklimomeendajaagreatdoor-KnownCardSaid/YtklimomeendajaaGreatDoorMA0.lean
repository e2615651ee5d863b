
set_option linter.unusedVariables false
set_option linter.unusedSimpArgs false
/- Plain twins of the reader's functions: no program, no world. Kinds of words and of parts are the numbers of packages words and tree. -/
namespace Go.Proofs.YtklimomeendajaaGreatDoor

def constK (k : Int) : Int := if k = 1 then 1 else if k = 20 then 2 else if k = 21 then 3 else if k = 25 then 5 else 0
def cmpK (k : Int) : Int := if k = 26 then 16 else if k = 27 then 17 else 0
def addK (k : Int) : Int := if k = 28 then 18 else if k = 29 then 19 else 0
def mulK (k : Int) : Int := if k = 30 then 20 else if k = 31 then 21 else 0
def preK (k : Int) : Int := if k = 15 then 22 else if k = 16 then 23 else if k = 18 then 24 else 0
def atomK (k : Int) : Int := if k = 2 then 4 else if k = 19 then 9 else constK k
def begA (k : Int) : Bool := if k = 32 then true else !(atomK k == 0)

/-- An expression as the reader lays it. -/
structure EX where
  kind : Int := 0
  num : Int := 0
  binder : Int := 0
  first : Int := 0
  second : Int := 0
  third : Int := 0
  funs : List (Int × Int × Int) := []
  arms : List (Int × Int) := []

structure PT where
  kind : Int := 0
  num : Int := 0
  binder : Int := 0
  first : Int := 0
  second : Int := 0

/-- How the reader stands. -/
structure RS where
  pos : Nat
  bad : Bool
  exps : List EX
  pats : List PT
  bnds : List Int

section
variable (ws : List (Int × Int))

def rPeek (s : RS) : Int × Int := ws.getD s.pos (0, 0)
def rStep (s : RS) : RS := if s.pos < ws.length then { s with pos := s.pos + 1 } else s
def rFail (s : RS) : RS := { s with bad := true, pos := ws.length }
def rTake (k : Int) (s : RS) : RS × Bool := if (rPeek ws s).1 = k then (rStep ws s, true) else (s, false)
def rWant (k : Int) (s : RS) : RS := if (rTake ws k s).2 then (rTake ws k s).1 else rFail ws (rTake ws k s).1
def rBinder (s : RS) : RS × Int := ({ rWant ws 2 s with bnds := (rWant ws 2 s).bnds ++ [(rPeek ws s).2] }, (rWant ws 2 s).bnds.length)
def rExp (x : EX) (s : RS) : RS × Int := ({ s with exps := s.exps ++ [x] }, s.exps.length)
def rPat (x : PT) (s : RS) : RS × Int := ({ s with pats := s.pats ++ [x] }, s.pats.length)
end

end Go.Proofs.YtklimomeendajaaGreatDoor

/- The reader's functions, each over a stand-in R for the reader's calls of itself ('R tag'): 0 exp, 1 let, 2 fn, 3 choice, 4 match, 5 try, 6 cmp, 7 letRec, 8 cons, 9 sum, 10 prod, 11 app, 12 throw, 13 call, 14 atom, 15 brackets, 16 pat, 17 simple, 18 patBrackets. -/
namespace Go.Proofs.YtklimomeendajaaGreatDoor
section
variable (ws : List (Int × Int))

def add (x : EX) (s : RS) : Option (RS × Int) := if s.exps.length ≤ 100000 then some (rExp x s) else none
def addP (x : PT) (s : RS) : Option (RS × Int) := if s.pats.length ≤ 100000 then some (rPat x s) else none
def bnd (s : RS) : Option (RS × Int) := if s.bnds.length ≤ 100000 then some (rBinder ws s) else none

section
variable (R : Nat → RS → Option (RS × Int))

def tExp (s : RS) : Option (RS × Int) :=
  if (rPeek ws s).1 = 3 then R 1 s else if (rPeek ws s).1 = 7 then R 2 s else if (rPeek ws s).1 = 8 then R 3 s else if (rPeek ws s).1 = 11 then R 4 s else if (rPeek ws s).1 = 14 then R 5 s else R 6 s

def tLet (s : RS) : Option (RS × Int) :=
  if (rTake ws 4 (rWant ws 3 s)).2 then R 7 (rTake ws 4 (rWant ws 3 s)).1 else
  (bnd ws (rTake ws 4 (rWant ws 3 s)).1).bind fun b => (R 0 (rWant ws 26 b.1)).bind fun x => (R 0 (rWant ws 6 x.1)).bind fun y => add ⟨10, 0, b.2, x.2, y.2, 0, [], []⟩ y.1

def tFn (s : RS) : Option (RS × Int) :=
  (bnd ws (rWant ws 7 s)).bind fun b => (R 0 (rWant ws 23 b.1)).bind fun x => add ⟨12, 0, b.2, x.2, 0, 0, [], []⟩ x.1

def tIf (s : RS) : Option (RS × Int) :=
  (R 0 (rWant ws 8 s)).bind fun x => (R 0 (rWant ws 9 x.1)).bind fun y => (R 0 (rWant ws 10 y.1)).bind fun z => add ⟨13, 0, 0, x.2, y.2, z.2, [], []⟩ z.1

def tFun (s : RS) : Option (RS × Int × Int × Int) :=
  (bnd ws s).bind fun b => (bnd ws b.1).bind fun p => (R 0 (rWant ws 26 p.1)).bind fun x => some (x.1, b.2, p.2, x.2)

def tFuns : Nat → RS → List (Int × Int × Int) → Option (RS × List (Int × Int × Int))
  | 0, _, _ => none
  | n + 1, s, l => (tFun ws R s).bind fun x => if l.length ≤ 100000 then (if (rTake ws 5 x.1).2 then tFuns n (rTake ws 5 x.1).1 (l ++ [x.2]) else some ((rTake ws 5 x.1).1, l ++ [x.2])) else none

def tLetRec (n : Nat) (s : RS) : Option (RS × Int) :=
  (tFuns ws R n s []).bind fun f => (R 0 (rWant ws 6 f.1)).bind fun x => add ⟨11, 0, 0, x.2, 0, 0, f.2, []⟩ x.1

def tArm (s : RS) : Option (RS × Int × Int) :=
  (R 16 s).bind fun p => (R 0 (rWant ws 23 p.1)).bind fun x => some (x.1, p.2, x.2)

def tArms : Nat → RS → List (Int × Int) → Option (RS × List (Int × Int))
  | 0, _, _ => none
  | n + 1, s, l => (tArm ws R s).bind fun x => if l.length ≤ 100000 then (if (rTake ws 35 x.1).2 then tArms n (rTake ws 35 x.1).1 (l ++ [x.2]) else some ((rTake ws 35 x.1).1, l ++ [x.2])) else none

def tMatch (n : Nat) (s : RS) : Option (RS × Int) :=
  (R 0 (rWant ws 11 s)).bind fun x => (tArms ws R n (rWant ws 12 x.1) []).bind fun a => add ⟨14, 0, 0, x.2, 0, 0, [], a.2⟩ (rWant ws 13 a.1)

def tTry (s : RS) : Option (RS × Int) :=
  (R 0 (rWant ws 14 s)).bind fun x => (bnd ws (rWant ws 12 x.1)).bind fun b => (R 0 (rWant ws 23 b.1)).bind fun y => add ⟨15, 0, b.2, x.2, y.2, 0, [], []⟩ (rWant ws 13 y.1)

def tCmp (s : RS) : Option (RS × Int) :=
  (R 8 s).bind fun x => if cmpK (rPeek ws x.1).1 = 0 then some x else (R 8 (rStep ws x.1)).bind fun y => add ⟨cmpK (rPeek ws x.1).1, 0, 0, x.2, y.2, 0, [], []⟩ y.1

def tCons (s : RS) : Option (RS × Int) :=
  (R 9 s).bind fun x => if (rTake ws 24 x.1).2 then (R 8 (rTake ws 24 x.1).1).bind fun y => add ⟨8, 0, 0, x.2, y.2, 0, [], []⟩ y.1 else some ((rTake ws 24 x.1).1, x.2)

def tSumL : Nat → RS → Int → Option (RS × Int)
  | 0, _, _ => none
  | n + 1, s, l => if addK (rPeek ws s).1 = 0 then some (s, l) else (R 10 (rStep ws s)).bind fun y => (add ⟨addK (rPeek ws s).1, 0, 0, l, y.2, 0, [], []⟩ y.1).bind fun z => tSumL n z.1 z.2

def tSum (n : Nat) (s : RS) : Option (RS × Int) := (R 10 s).bind fun x => tSumL ws R n x.1 x.2

def tProdL : Nat → RS → Int → Option (RS × Int)
  | 0, _, _ => none
  | n + 1, s, l => if mulK (rPeek ws s).1 = 0 then some (s, l) else (R 11 (rStep ws s)).bind fun y => (add ⟨mulK (rPeek ws s).1, 0, 0, l, y.2, 0, [], []⟩ y.1).bind fun z => tProdL n z.1 z.2

def tProd (n : Nat) (s : RS) : Option (RS × Int) := (R 11 s).bind fun x => tProdL ws R n x.1 x.2

def tApp (s : RS) : Option (RS × Int) :=
  if (rPeek ws s).1 = 17 then R 12 s else if preK (rPeek ws s).1 = 0 then R 13 s else (R 14 (rStep ws s)).bind fun x => add ⟨preK (rPeek ws s).1, 0, 0, x.2, 0, 0, [], []⟩ x.1

def tThrow (s : RS) : Option (RS × Int) :=
  (R 14 (rWant ws 17 s)).bind fun x => (R 14 x.1).bind fun y => add ⟨25, 0, 0, x.2, y.2, 0, [], []⟩ y.1

def tCallL : Nat → RS → Int → Option (RS × Int)
  | 0, _, _ => none
  | n + 1, s, l => if begA (rPeek ws s).1 then (R 14 s).bind fun y => (add ⟨26, 0, 0, l, y.2, 0, [], []⟩ y.1).bind fun z => tCallL n z.1 z.2 else some (s, l)

def tCall (n : Nat) (s : RS) : Option (RS × Int) := (R 14 s).bind fun x => tCallL ws R n x.1 x.2

def tAtom (s : RS) : Option (RS × Int) :=
  if (rPeek ws s).1 = 32 then R 15 s else
  add ⟨atomK (rPeek ws s).1, (rPeek ws s).2, 0, 0, 0, 0, [], []⟩ (rStep ws (if atomK (rPeek ws s).1 = 0 then rFail ws s else s))

def tBrackets (s : RS) : Option (RS × Int) :=
  (R 0 (rWant ws 32 s)).bind fun x =>
    if (rTake ws 34 x.1).2 then (R 0 (rTake ws 34 x.1).1).bind fun y => (add ⟨7, 0, 0, x.2, y.2, 0, [], []⟩ y.1).bind fun z => some (rWant ws 33 z.1, z.2)
    else some (rWant ws 33 (rTake ws 34 x.1).1, x.2)

def tPat (s : RS) : Option (RS × Int) :=
  (R 17 s).bind fun x => if (rTake ws 24 x.1).2 then (R 16 (rTake ws 24 x.1).1).bind fun y => addP ⟨8, 0, 0, x.2, y.2⟩ y.1 else some ((rTake ws 24 x.1).1, x.2)

def tSimple (s : RS) : Option (RS × Int) :=
  if (rPeek ws s).1 = 32 then R 18 s else
  if (rPeek ws s).1 = 2 then (bnd ws s).bind fun b => addP ⟨4, 0, b.2, 0, 0⟩ b.1 else
  if (rPeek ws s).1 = 22 then addP ⟨6, 0, 0, 0, 0⟩ (rStep ws s) else
  addP ⟨constK (rPeek ws s).1, (rPeek ws s).2, 0, 0, 0⟩ (rStep ws (if constK (rPeek ws s).1 = 0 then rFail ws s else s))

def tPatBrackets (s : RS) : Option (RS × Int) :=
  (R 16 (rWant ws 32 s)).bind fun x =>
    if (rTake ws 34 x.1).2 then (R 16 (rTake ws 34 x.1).1).bind fun y => (addP ⟨7, 0, 0, x.2, y.2⟩ y.1).bind fun z => some (rWant ws 33 z.1, z.2)
    else some (rWant ws 33 (rTake ws 34 x.1).1, x.2)
end

/-- The reader, as far as n goes. -/
def rdr : Nat → Nat → RS → Option (RS × Int)
  | 0, _, _ => none
  | n + 1, 0, s => tExp ws (rdr n) s
  | n + 1, 1, s => tLet ws (rdr n) s
  | n + 1, 2, s => tFn ws (rdr n) s
  | n + 1, 3, s => tIf ws (rdr n) s
  | n + 1, 4, s => tMatch ws (rdr n) n s
  | n + 1, 5, s => tTry ws (rdr n) s
  | n + 1, 6, s => tCmp ws (rdr n) s
  | n + 1, 7, s => tLetRec ws (rdr n) n s
  | n + 1, 8, s => tCons ws (rdr n) s
  | n + 1, 9, s => tSum ws (rdr n) n s
  | n + 1, 10, s => tProd ws (rdr n) n s
  | n + 1, 11, s => tApp ws (rdr n) s
  | n + 1, 12, s => tThrow ws (rdr n) s
  | n + 1, 13, s => tCall ws (rdr n) n s
  | n + 1, 14, s => tAtom ws (rdr n) s
  | n + 1, 15, s => tBrackets ws (rdr n) s
  | n + 1, 16, s => tPat ws (rdr n) s
  | n + 1, 17, s => tSimple ws (rdr n) s
  | n + 1, 18, s => tPatBrackets ws (rdr n) s
  | _ + 1, _ + 19, _ => none
end
end Go.Proofs.YtklimomeendajaaGreatDoor

/- The scope finder's functions, plain. Answers: is something wrong? none: an index is out of its range, or n is used up. -/
namespace Go.Proofs.YtklimomeendajaaGreatDoor
section
variable (t : RS)

/-- Is it a binder's number? -/
def bOk (v : Int) : Bool := decide (0 ≤ v) && decide (v.toNat < t.bnds.length)
def nm (v : Int) : Int := t.bnds.getD v.toNat 0

def fInner (sg : List Int) (name : Int) : Bool := !(sg.any fun v => nm t v == name)

def fBind (outer : Nat) (b : Int) (sg : List Int) : Option (List Int × Bool) :=
  if bOk t b && decide (sg.length ≤ 100000) then some (sg ++ [b], (sg.drop outer).any fun v => nm t v == nm t b) else none

def fBinds (outer : Nat) : List (Int × Int × Int) → List Int → Option (List Int × Bool)
  | [], sg => some (sg, false)
  | f :: l, sg => (fBind t outer f.1 sg).bind fun x => (fBinds outer l x.1).bind fun y => some (y.1, x.2 || y.2)

def patAt (i : Int) : Option PT := if 0 ≤ i then t.pats[i.toNat]? else none
def expAt (i : Int) : Option EX := if 0 ≤ i then t.exps[i.toNat]? else none

def fPat (outer : Nat) : Nat → Int → List Int → Option (List Int × Bool)
  | 0, _, _ => none
  | n + 1, i, sg => (patAt t i).bind fun p =>
    if p.kind = 4 then fBind t outer p.binder sg
    else if p.kind = 7 ∨ p.kind = 8 then (fPat outer n p.first sg).bind fun x => (fPat outer n p.second x.1).bind fun y => some (y.1, x.2 || y.2)
    else some (sg, false)

section
variable (R : Int → List Int → Option Bool)

def fWithin (b body : Int) (sg : List Int) : Option Bool := if bOk t b && decide (sg.length ≤ 100000) then R body (sg ++ [b]) else none

def fFuns : List (Int × Int × Int) → List Int → Option Bool
  | [], _ => some false
  | f :: l, sg => (fWithin t R f.2.1 f.2.2 sg).bind fun x => (fFuns l sg).bind fun y => some (x || y)

def fLetRec (e : EX) (sg : List Int) : Option Bool :=
  (fBinds t sg.length e.funs sg).bind fun x => (fFuns t R e.funs x.1).bind fun y => (R e.first x.1).bind fun z => some (x.2 || y || z)

def fArms (n : Nat) : List (Int × Int) → List Int → Option Bool
  | [], _ => some false
  | a :: l, sg => (fPat t sg.length n a.1 sg).bind fun x => (R a.2 x.1).bind fun y => (fArms n l sg).bind fun z => some (x.2 || y || z)

def fMatch (n : Nat) (e : EX) (sg : List Int) : Option Bool := (R e.first sg).bind fun x => (fArms t R n e.arms sg).bind fun y => some (x || y)

def two (k : Int) : Bool := k == 7 || k == 8 || k == 16 || k == 17 || k == 18 || k == 19 || k == 20 || k == 21 || k == 25 || k == 26

def fE (n : Nat) (e : EX) (sg : List Int) : Option Bool :=
  if e.kind = 4 then some (fInner t sg e.num)
  else if e.kind = 22 ∨ e.kind = 23 ∨ e.kind = 24 then R e.first sg
  else if two e.kind then (R e.first sg).bind fun x => (R e.second sg).bind fun y => some (x || y)
  else if e.kind = 13 then (R e.first sg).bind fun x => (R e.second sg).bind fun y => (R e.third sg).bind fun z => some (x || y || z)
  else if e.kind = 12 then fWithin t R e.binder e.first sg
  else if e.kind = 10 ∨ e.kind = 15 then (R e.first sg).bind fun x => (fWithin t R e.binder e.second sg).bind fun y => some (x || y)
  else if e.kind = 11 then fLetRec t R e sg
  else if e.kind = 14 then fMatch t R n e sg
  else some false
end

def fExp : Nat → Int → List Int → Option Bool
  | 0, _, _ => none
  | n + 1, i, sg => (expAt t i).bind fun e => fE t (fExp n) n e sg
end
end Go.Proofs.YtklimomeendajaaGreatDoor

/- The words of a text, plain: as package words cuts them. -/
namespace Go.Proofs.YtklimomeendajaaGreatDoor

def isDig (c : UInt8) : Bool := decide (48 ≤ c.toNat) && decide (c.toNat ≤ 57)
def begN (c : UInt8) : Bool := decide (c.toNat = 95) || (decide (97 ≤ c.toNat) && decide (c.toNat ≤ 122))
def onN (c : UInt8) : Bool := begN c || isDig c

def kwList : List (List UInt8) := [[108, 101, 116], [114, 101, 99], [97, 110, 100], [105, 110], [102, 110], [105, 102], [116, 104, 101, 110], [101, 108, 115, 101], [109, 97, 116, 99, 104], [119, 105, 116, 104], [101, 110, 100], [116, 114, 121], [114, 97, 105, 115, 101], [99, 97, 108, 108, 99, 99], [116, 104, 114, 111, 119], [112, 114, 105, 110, 116], [114, 101, 97, 100], [116, 114, 117, 101], [102, 97, 108, 115, 101], [95]]
def sgList : List (List UInt8) := [[45, 62], [58, 58], [91, 93], [61], [60], [43], [45], [42], [47], [40], [41], [44], [124]]

/-- How the splitter stands. -/
structure SS where
  pos : Nat
  ws : List (Int × Int)
  names : List (List UInt8)

section
variable (t : List UInt8)

def sAdd (k n : Int) (s : SS) : SS := { s with ws := s.ws ++ [(k, n)] }

/-- A number goes on by a digit, while it is not too great. -/
def numStep (n : Int) (c : UInt8) : Int := if n ≤ 999999 then 10 * n + ((c.toNat : Int) - 48) else n
def numOf (ds : List UInt8) : Int := ds.foldl numStep 0

def digs (s : SS) : List UInt8 := (t.drop s.pos).takeWhile isDig
def nameOf (s : SS) : List UInt8 := (t.drop s.pos).takeWhile onN

def sNumber (s : SS) : SS × Bool := (sAdd 1 (numOf (digs t s)) { s with pos := s.pos + (digs t s).length }, decide (numOf (digs t s) ≤ 999999))

def sCount (x : List UInt8) (s : SS) : SS × Int := if s.names.idxOf x < s.names.length then (s, s.names.idxOf x) else ({ s with names := s.names ++ [x] }, s.names.length)

def sName (s : SS) : SS :=
  if kwList.idxOf (nameOf t s) < 20 then sAdd (3 + (kwList.idxOf (nameOf t s) : Nat)) 0 { s with pos := s.pos + (nameOf t s).length }
  else sAdd 2 (sCount (nameOf t s) { s with pos := s.pos + (nameOf t s).length }).2 (sCount (nameOf t s) { s with pos := s.pos + (nameOf t s).length }).1

/-- Does the text go on with that sign? -/
def signAt (s : SS) (x : List UInt8) : Bool := x.isPrefixOf (t.drop s.pos)

def sSign (s : SS) : SS × Bool :=
  if sgList.findIdx (signAt t s) < 13 then (sAdd (23 + (sgList.findIdx (signAt t s) : Nat)) 0 { s with pos := s.pos + (sgList.getD (sgList.findIdx (signAt t s)) []).length }, true) else (s, false)

def sStep (c : UInt8) (s : SS) : SS × Bool :=
  if c.toNat = 32 ∨ c.toNat = 10 then ({ s with pos := s.pos + 1 }, true)
  else if isDig c then sNumber t s
  else if begN c then (sName t s, true)
  else sSign t s

/-- All of it; n: how many steps at the most. -/
def sSplit : Nat → SS → Option (List (Int × Int) × Bool)
  | 0, _ => none
  | n + 1, s => if s.pos < t.length then (if (sStep t (t.getD s.pos 0) s).2 then sSplit n (sStep t (t.getD s.pos 0) s).1 else some ([], false)) else some (s.ws, true)
end
end Go.Proofs.YtklimomeendajaaGreatDoor

/- Compile, plain: the error that it answers (0: none); none: a twin's n is used up. -/
namespace Go.Proofs.YtklimomeendajaaGreatDoor

def rs0 : RS := ⟨0, false, [], [], []⟩

/-- Is what the reader came to an expression? -/
def rGood (ws : List (Int × Int)) (s : RS) : Bool := !s.bad && !decide (s.pos < ws.length)

def cScope (n : Nat) (x : RS × Int) : Option Int :=
  if x.1.exps.length ≤ 200000 ∧ x.1.bnds.length ≤ 200000 then (fExp x.1 n x.2 []).bind fun b => some (if b then 4 else 0) else none

def cRead (n : Nat) (ws : List (Int × Int)) : Option Int :=
  (rdr ws n 0 rs0).bind fun x => if rGood ws x.1 then cScope n x else some 3

def cErr (n : Nat) (t : List UInt8) : Option Int :=
  if 240 < t.length then some 1 else
  (sSplit t n ⟨0, [], []⟩).bind fun x => if x.2 then cRead n x.1 else some 2
end Go.Proofs.YtklimomeendajaaGreatDoor

/- The scope finder's functions once more, plain, with what the names mean: a list of places and binders, in the order in which they are laid in. -/
namespace Go.Proofs.YtklimomeendajaaGreatDoor

/-- Is something wrong? What was laid in. -/
abbrev Ed := Bool × List (Nat × Int)
def orE (a b : Ed) : Ed := (a.1 || b.1, a.2 ++ b.2)
def noE : Ed := (false, [])
def apE : List (Nat × Int) → List Int → List Int
  | [], l => l
  | e :: r, l => apE r (l.set e.1 e.2)

theorem orE_assoc (a b c : Ed) : orE (orE a b) c = orE a (orE b c) := by simp [orE, Bool.or_assoc, List.append_assoc]
theorem orE_no (a : Ed) : orE a noE = a := by simp [orE, noE]
theorem apE_app : ∀ (a b : List (Nat × Int)) (l : List Int), apE (a ++ b) l = apE b (apE a l)
  | [], _, _ => rfl
  | e :: a, b, l => apE_app a b (l.set e.1 e.2)
theorem apE_len : ∀ (a : List (Nat × Int)) (l : List Int), (apE a l).length = l.length
  | [], _ => rfl
  | e :: a, l => by rw [apE, apE_len a, List.length_set]

section
variable (t : RS)

/-- The innermost binder of a name; the last one first. -/
def mInner : List Int → Int → Int
  | [], _ => -1
  | v :: l, x => if nm t v = x then v else mInner l x

section
variable (R : Int → List Int → Option Ed)

def gWithin (b body : Int) (sg : List Int) : Option Ed := if bOk t b && decide (sg.length ≤ 100000) then R body (sg ++ [b]) else none

def gFuns : List (Int × Int × Int) → List Int → Option Ed
  | [], _ => some noE
  | f :: l, sg => (gWithin t R f.2.1 f.2.2 sg).bind fun x => (gFuns l sg).bind fun y => some (orE x y)

def gLetRec (e : EX) (sg : List Int) : Option Ed :=
  (fBinds t sg.length e.funs sg).bind fun x => (gFuns t R e.funs x.1).bind fun y => (R e.first x.1).bind fun z => some (orE (orE (x.2, []) y) z)

def gArms (n : Nat) : List (Int × Int) → List Int → Option Ed
  | [], _ => some noE
  | a :: l, sg => (fPat t sg.length n a.1 sg).bind fun x => (R a.2 x.1).bind fun y => (gArms n l sg).bind fun z => some (orE (orE (x.2, []) y) z)

def gMatch (n : Nat) (e : EX) (sg : List Int) : Option Ed := (R e.first sg).bind fun x => (gArms t R n e.arms sg).bind fun y => some (orE x y)

def gE (n : Nat) (i : Int) (e : EX) (sg : List Int) : Option Ed :=
  if e.kind = 4 then some (fInner t sg e.num, [(i.toNat, mInner t sg.reverse e.num)])
  else if e.kind = 22 ∨ e.kind = 23 ∨ e.kind = 24 then R e.first sg
  else if two e.kind then (R e.first sg).bind fun x => (R e.second sg).bind fun y => some (orE x y)
  else if e.kind = 13 then (R e.first sg).bind fun x => (R e.second sg).bind fun y => (R e.third sg).bind fun z => some (orE (orE x y) z)
  else if e.kind = 12 then gWithin t R e.binder e.first sg
  else if e.kind = 10 ∨ e.kind = 15 then (R e.first sg).bind fun x => (gWithin t R e.binder e.second sg).bind fun y => some (orE x y)
  else if e.kind = 11 then gLetRec t R e sg
  else if e.kind = 14 then gMatch t R n e sg
  else some noE
end

def gExp : Nat → Int → List Int → Option Ed
  | 0, _, _ => none
  | n + 1, i, sg => (expAt t i).bind fun e => gE t (gExp n) n i e sg
end

/-- b and x say the same of what is wrong. -/
def edOf (a : Option Bool) (x : Option Ed) : Prop := ∀ b, a = some b → ∃ l, x = some (b, l)

section
variable {t : RS} {F : Int → List Int → Option Bool} {R : Int → List Int → Option Ed} (hR : ∀ i sg, edOf (F i sg) (R i sg))

theorem edOf.bind {a : Option Bool} {x : Option Ed} {f : Bool → Option Bool} {g : Ed → Option Ed} (h : edOf a x) (h2 : ∀ b l, edOf (f b) (g (b, l))) : edOf (a.bind f) (x.bind g) := by
  intro b hb
  obtain ⟨v, h3, h4⟩ := Option.bind_eq_some_iff.1 hb
  obtain ⟨l, rfl⟩ := h v h3
  exact h2 v l b h4

theorem edOf.bind2 {α : Type} {a : Option α} {f : α → Option Bool} {g : α → Option Ed} (h2 : ∀ x, edOf (f x) (g x)) : edOf (a.bind f) (a.bind g) := by
  intro b hb
  obtain ⟨v, h3, h4⟩ := Option.bind_eq_some_iff.1 hb
  rw [h3]
  exact h2 v b h4

theorem edOf.some {b : Bool} {l : List (Nat × Int)} {x : Ed} (h : x = (b, l)) : edOf (some b) (some x) := by
  intro c hc
  injection hc with hc
  subst hc
  exact ⟨l, by rw [h]⟩

theorem edOf.ite {p : Prop} [Decidable p] {a b : Option Bool} {x y : Option Ed} (h1 : edOf a x) (h2 : edOf b y) : edOf (if p then a else b) (if p then x else y) := by
  split
  · exact h1
  · exact h2

theorem edOf.nope {x : Option Ed} : edOf none x := fun _ h => by cases h

theorem g_within (b body : Int) (sg : List Int) (hR : ∀ i sg, edOf (F i sg) (R i sg)) : edOf (fWithin t F b body sg) (gWithin t R b body sg) := edOf.ite (hR _ _) edOf.nope

theorem g_funs (hR : ∀ i sg, edOf (F i sg) (R i sg)) : ∀ (l : List (Int × Int × Int)) (sg : List Int), edOf (fFuns t F l sg) (gFuns t R l sg)
  | [], _ => edOf.some rfl
  | f :: l, sg => (g_within _ _ _ hR).bind fun b _ => (g_funs hR l sg).bind fun c _ => edOf.some rfl

theorem g_arms (hR : ∀ i sg, edOf (F i sg) (R i sg)) (n : Nat) : ∀ (l : List (Int × Int)) (sg : List Int), edOf (fArms t F n l sg) (gArms t R n l sg)
  | [], _ => edOf.some rfl
  | a :: l, sg => edOf.bind2 fun x => (hR _ _).bind fun b _ => (g_arms hR n l sg).bind fun c _ => edOf.some rfl

theorem g_e (hR : ∀ i sg, edOf (F i sg) (R i sg)) (n : Nat) (i : Int) (e : EX) (sg : List Int) : edOf (fE t F n e sg) (gE t R n i e sg) := by
  unfold fE gE
  refine edOf.ite (edOf.some rfl) (edOf.ite (hR _ _) (edOf.ite ((hR _ _).bind fun b _ => (hR _ _).bind fun c _ => edOf.some rfl) (edOf.ite ((hR _ _).bind fun b _ => (hR _ _).bind fun c _ => (hR _ _).bind fun d _ => edOf.some rfl)
    (edOf.ite (g_within _ _ _ hR) (edOf.ite ((hR _ _).bind fun b _ => (g_within _ _ _ hR).bind fun c _ => edOf.some rfl) (edOf.ite ?_ (edOf.ite ?_ (edOf.some rfl))))))))
  · exact edOf.bind2 fun x => (g_funs hR _ _).bind fun b _ => (hR _ _).bind fun c _ => edOf.some rfl
  · exact (hR _ _).bind fun b _ => (g_arms hR n _ _).bind fun c _ => edOf.some rfl
end

/-- The two twins agree. -/
theorem g_exp (t : RS) : ∀ (n : Nat) (i : Int) (sg : List Int), edOf (fExp t n i sg) (gExp t n i sg)
  | 0, _, _ => edOf.nope
  | n + 1, i, sg => edOf.bind2 fun e => g_e (g_exp t n) n i e sg
end Go.Proofs.YtklimomeendajaaGreatDoor
