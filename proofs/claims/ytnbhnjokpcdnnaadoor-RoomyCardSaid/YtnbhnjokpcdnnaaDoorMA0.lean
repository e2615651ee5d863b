import GoSem.Core.Code
set_option linter.unusedVariables false
set_option linter.unusedSimpArgs false
/- Plain twins of the reader's functions: no program, no world. Kinds of words and of parts are the numbers of packages words and tree. -/
namespace Go.Proofs.YtnbhnjokpcdnnaaDoor

def constK (k : Int) : Int := if k = 1 then 1 else if k = 20 then 2 else if k = 21 then 3 else if k = 25 then 5 else 0
def cmpK (k : Int) : Int := if k = 26 then 16 else if k = 27 then 17 else 0
def addK (k : Int) : Int := if k = 28 then 18 else if k = 29 then 19 else 0
def mulK (k : Int) : Int := if k = 30 then 20 else if k = 31 then 21 else 0
def preK (k : Int) : Int := if k = 15 then 22 else if k = 16 then 23 else if k = 18 then 24 else 0
def atomK (k : Int) : Int := if k = 2 then 4 else if k = 19 then 9 else constK k
def begA (k : Int) : Bool := if k = 32 then true else !(atomK k == 0)

/-- An expression as the reader lays it. -/
structure EX where
  kind : Int := 0
  num : Int := 0
  binder : Int := 0
  first : Int := 0
  second : Int := 0
  third : Int := 0
  funs : List (Int × Int × Int) := []
  arms : List (Int × Int) := []

structure PT where
  kind : Int := 0
  num : Int := 0
  binder : Int := 0
  first : Int := 0
  second : Int := 0

/-- How the reader stands. -/
structure RS where
  pos : Nat
  bad : Bool
  exps : List EX
  pats : List PT
  bnds : List Int

section
variable (ws : List (Int × Int))

def rPeek (s : RS) : Int × Int := ws.getD s.pos (0, 0)
def rStep (s : RS) : RS := if s.pos < ws.length then { s with pos := s.pos + 1 } else s
def rFail (s : RS) : RS := { s with bad := true, pos := ws.length }
def rTake (k : Int) (s : RS) : RS × Bool := if (rPeek ws s).1 = k then (rStep ws s, true) else (s, false)
def rWant (k : Int) (s : RS) : RS := if (rTake ws k s).2 then (rTake ws k s).1 else rFail ws (rTake ws k s).1
def rBinder (s : RS) : RS × Int := ({ rWant ws 2 s with bnds := (rWant ws 2 s).bnds ++ [(rPeek ws s).2] }, (rWant ws 2 s).bnds.length)
def rExp (x : EX) (s : RS) : RS × Int := ({ s with exps := s.exps ++ [x] }, s.exps.length)
def rPat (x : PT) (s : RS) : RS × Int := ({ s with pats := s.pats ++ [x] }, s.pats.length)
end

end Go.Proofs.YtnbhnjokpcdnnaaDoor

/- The reader's functions, each over a stand-in R for the reader's calls of itself ('R tag'): 0 exp, 1 let, 2 fn, 3 choice, 4 match, 5 try, 6 cmp, 7 letRec, 8 cons, 9 sum, 10 prod, 11 app, 12 throw, 13 call, 14 atom, 15 brackets, 16 pat, 17 simple, 18 patBrackets. -/
namespace Go.Proofs.YtnbhnjokpcdnnaaDoor
section
variable (ws : List (Int × Int))

def add (x : EX) (s : RS) : Option (RS × Int) := if s.exps.length ≤ 100000 then some (rExp x s) else none
def addP (x : PT) (s : RS) : Option (RS × Int) := if s.pats.length ≤ 100000 then some (rPat x s) else none
def bnd (s : RS) : Option (RS × Int) := if s.bnds.length ≤ 100000 then some (rBinder ws s) else none

section
variable (R : Nat → RS → Option (RS × Int))

def tExp (s : RS) : Option (RS × Int) :=
  if (rPeek ws s).1 = 3 then R 1 s else if (rPeek ws s).1 = 7 then R 2 s else if (rPeek ws s).1 = 8 then R 3 s else if (rPeek ws s).1 = 11 then R 4 s else if (rPeek ws s).1 = 14 then R 5 s else R 6 s

def tLet (s : RS) : Option (RS × Int) :=
  if (rTake ws 4 (rWant ws 3 s)).2 then R 7 (rTake ws 4 (rWant ws 3 s)).1 else
  (bnd ws (rTake ws 4 (rWant ws 3 s)).1).bind fun b => (R 0 (rWant ws 26 b.1)).bind fun x => (R 0 (rWant ws 6 x.1)).bind fun y => add ⟨10, 0, b.2, x.2, y.2, 0, [], []⟩ y.1

def tFn (s : RS) : Option (RS × Int) :=
  (bnd ws (rWant ws 7 s)).bind fun b => (R 0 (rWant ws 23 b.1)).bind fun x => add ⟨12, 0, b.2, x.2, 0, 0, [], []⟩ x.1

def tIf (s : RS) : Option (RS × Int) :=
  (R 0 (rWant ws 8 s)).bind fun x => (R 0 (rWant ws 9 x.1)).bind fun y => (R 0 (rWant ws 10 y.1)).bind fun z => add ⟨13, 0, 0, x.2, y.2, z.2, [], []⟩ z.1

def tFun (s : RS) : Option (RS × Int × Int × Int) :=
  (bnd ws s).bind fun b => (bnd ws b.1).bind fun p => (R 0 (rWant ws 26 p.1)).bind fun x => some (x.1, b.2, p.2, x.2)

def tFuns : Nat → RS → List (Int × Int × Int) → Option (RS × List (Int × Int × Int))
  | 0, _, _ => none
  | n + 1, s, l => (tFun ws R s).bind fun x => if l.length ≤ 100000 then (if (rTake ws 5 x.1).2 then tFuns n (rTake ws 5 x.1).1 (l ++ [x.2]) else some ((rTake ws 5 x.1).1, l ++ [x.2])) else none

def tLetRec (n : Nat) (s : RS) : Option (RS × Int) :=
  (tFuns ws R n s []).bind fun f => (R 0 (rWant ws 6 f.1)).bind fun x => add ⟨11, 0, 0, x.2, 0, 0, f.2, []⟩ x.1

def tArm (s : RS) : Option (RS × Int × Int) :=
  (R 16 s).bind fun p => (R 0 (rWant ws 23 p.1)).bind fun x => some (x.1, p.2, x.2)

def tArms : Nat → RS → List (Int × Int) → Option (RS × List (Int × Int))
  | 0, _, _ => none
  | n + 1, s, l => (tArm ws R s).bind fun x => if l.length ≤ 100000 then (if (rTake ws 35 x.1).2 then tArms n (rTake ws 35 x.1).1 (l ++ [x.2]) else some ((rTake ws 35 x.1).1, l ++ [x.2])) else none

def tMatch (n : Nat) (s : RS) : Option (RS × Int) :=
  (R 0 (rWant ws 11 s)).bind fun x => (tArms ws R n (rWant ws 12 x.1) []).bind fun a => add ⟨14, 0, 0, x.2, 0, 0, [], a.2⟩ (rWant ws 13 a.1)

def tTry (s : RS) : Option (RS × Int) :=
  (R 0 (rWant ws 14 s)).bind fun x => (bnd ws (rWant ws 12 x.1)).bind fun b => (R 0 (rWant ws 23 b.1)).bind fun y => add ⟨15, 0, b.2, x.2, y.2, 0, [], []⟩ (rWant ws 13 y.1)

def tCmp (s : RS) : Option (RS × Int) :=
  (R 8 s).bind fun x => if cmpK (rPeek ws x.1).1 = 0 then some x else (R 8 (rStep ws x.1)).bind fun y => add ⟨cmpK (rPeek ws x.1).1, 0, 0, x.2, y.2, 0, [], []⟩ y.1

def tCons (s : RS) : Option (RS × Int) :=
  (R 9 s).bind fun x => if (rTake ws 24 x.1).2 then (R 8 (rTake ws 24 x.1).1).bind fun y => add ⟨8, 0, 0, x.2, y.2, 0, [], []⟩ y.1 else some ((rTake ws 24 x.1).1, x.2)

def tSumL : Nat → RS → Int → Option (RS × Int)
  | 0, _, _ => none
  | n + 1, s, l => if addK (rPeek ws s).1 = 0 then some (s, l) else (R 10 (rStep ws s)).bind fun y => (add ⟨addK (rPeek ws s).1, 0, 0, l, y.2, 0, [], []⟩ y.1).bind fun z => tSumL n z.1 z.2

def tSum (n : Nat) (s : RS) : Option (RS × Int) := (R 10 s).bind fun x => tSumL ws R n x.1 x.2

def tProdL : Nat → RS → Int → Option (RS × Int)
  | 0, _, _ => none
  | n + 1, s, l => if mulK (rPeek ws s).1 = 0 then some (s, l) else (R 11 (rStep ws s)).bind fun y => (add ⟨mulK (rPeek ws s).1, 0, 0, l, y.2, 0, [], []⟩ y.1).bind fun z => tProdL n z.1 z.2

def tProd (n : Nat) (s : RS) : Option (RS × Int) := (R 11 s).bind fun x => tProdL ws R n x.1 x.2

def tApp (s : RS) : Option (RS × Int) :=
  if (rPeek ws s).1 = 17 then R 12 s else if preK (rPeek ws s).1 = 0 then R 13 s else (R 14 (rStep ws s)).bind fun x => add ⟨preK (rPeek ws s).1, 0, 0, x.2, 0, 0, [], []⟩ x.1

def tThrow (s : RS) : Option (RS × Int) :=
  (R 14 (rWant ws 17 s)).bind fun x => (R 14 x.1).bind fun y => add ⟨25, 0, 0, x.2, y.2, 0, [], []⟩ y.1

def tCallL : Nat → RS → Int → Option (RS × Int)
  | 0, _, _ => none
  | n + 1, s, l => if begA (rPeek ws s).1 then (R 14 s).bind fun y => (add ⟨26, 0, 0, l, y.2, 0, [], []⟩ y.1).bind fun z => tCallL n z.1 z.2 else some (s, l)

def tCall (n : Nat) (s : RS) : Option (RS × Int) := (R 14 s).bind fun x => tCallL ws R n x.1 x.2

def tAtom (s : RS) : Option (RS × Int) :=
  if (rPeek ws s).1 = 32 then R 15 s else
  add ⟨atomK (rPeek ws s).1, (rPeek ws s).2, 0, 0, 0, 0, [], []⟩ (rStep ws (if atomK (rPeek ws s).1 = 0 then rFail ws s else s))

def tBrackets (s : RS) : Option (RS × Int) :=
  (R 0 (rWant ws 32 s)).bind fun x =>
    if (rTake ws 34 x.1).2 then (R 0 (rTake ws 34 x.1).1).bind fun y => (add ⟨7, 0, 0, x.2, y.2, 0, [], []⟩ y.1).bind fun z => some (rWant ws 33 z.1, z.2)
    else some (rWant ws 33 (rTake ws 34 x.1).1, x.2)

def tPat (s : RS) : Option (RS × Int) :=
  (R 17 s).bind fun x => if (rTake ws 24 x.1).2 then (R 16 (rTake ws 24 x.1).1).bind fun y => addP ⟨8, 0, 0, x.2, y.2⟩ y.1 else some ((rTake ws 24 x.1).1, x.2)

def tSimple (s : RS) : Option (RS × Int) :=
  if (rPeek ws s).1 = 32 then R 18 s else
  if (rPeek ws s).1 = 2 then (bnd ws s).bind fun b => addP ⟨4, 0, b.2, 0, 0⟩ b.1 else
  if (rPeek ws s).1 = 22 then addP ⟨6, 0, 0, 0, 0⟩ (rStep ws s) else
  addP ⟨constK (rPeek ws s).1, (rPeek ws s).2, 0, 0, 0⟩ (rStep ws (if constK (rPeek ws s).1 = 0 then rFail ws s else s))

def tPatBrackets (s : RS) : Option (RS × Int) :=
  (R 16 (rWant ws 32 s)).bind fun x =>
    if (rTake ws 34 x.1).2 then (R 16 (rTake ws 34 x.1).1).bind fun y => (addP ⟨7, 0, 0, x.2, y.2⟩ y.1).bind fun z => some (rWant ws 33 z.1, z.2)
    else some (rWant ws 33 (rTake ws 34 x.1).1, x.2)
end

/-- The reader, as far as n goes. -/
def rdr : Nat → Nat → RS → Option (RS × Int)
  | 0, _, _ => none
  | n + 1, 0, s => tExp ws (rdr n) s
  | n + 1, 1, s => tLet ws (rdr n) s
  | n + 1, 2, s => tFn ws (rdr n) s
  | n + 1, 3, s => tIf ws (rdr n) s
  | n + 1, 4, s => tMatch ws (rdr n) n s
  | n + 1, 5, s => tTry ws (rdr n) s
  | n + 1, 6, s => tCmp ws (rdr n) s
  | n + 1, 7, s => tLetRec ws (rdr n) n s
  | n + 1, 8, s => tCons ws (rdr n) s
  | n + 1, 9, s => tSum ws (rdr n) n s
  | n + 1, 10, s => tProd ws (rdr n) n s
  | n + 1, 11, s => tApp ws (rdr n) s
  | n + 1, 12, s => tThrow ws (rdr n) s
  | n + 1, 13, s => tCall ws (rdr n) n s
  | n + 1, 14, s => tAtom ws (rdr n) s
  | n + 1, 15, s => tBrackets ws (rdr n) s
  | n + 1, 16, s => tPat ws (rdr n) s
  | n + 1, 17, s => tSimple ws (rdr n) s
  | n + 1, 18, s => tPatBrackets ws (rdr n) s
  | _ + 1, _ + 19, _ => none
end
end Go.Proofs.YtnbhnjokpcdnnaaDoor

/- The scope finder's functions, plain. Answers: is something wrong? none: an index is out of its range, or n is used up. -/
namespace Go.Proofs.YtnbhnjokpcdnnaaDoor
section
variable (t : RS)

/-- Is it a binder's number? -/
def bOk (v : Int) : Bool := decide (0 ≤ v) && decide (v.toNat < t.bnds.length)
def nm (v : Int) : Int := t.bnds.getD v.toNat 0

def fInner (sg : List Int) (name : Int) : Bool := !(sg.any fun v => nm t v == name)

def fBind (outer : Nat) (b : Int) (sg : List Int) : Option (List Int × Bool) :=
  if bOk t b && decide (sg.length ≤ 100000) then some (sg ++ [b], (sg.drop outer).any fun v => nm t v == nm t b) else none

def fBinds (outer : Nat) : List (Int × Int × Int) → List Int → Option (List Int × Bool)
  | [], sg => some (sg, false)
  | f :: l, sg => (fBind t outer f.1 sg).bind fun x => (fBinds outer l x.1).bind fun y => some (y.1, x.2 || y.2)

def patAt (i : Int) : Option PT := if 0 ≤ i then t.pats[i.toNat]? else none
def expAt (i : Int) : Option EX := if 0 ≤ i then t.exps[i.toNat]? else none

def fPat (outer : Nat) : Nat → Int → List Int → Option (List Int × Bool)
  | 0, _, _ => none
  | n + 1, i, sg => (patAt t i).bind fun p =>
    if p.kind = 4 then fBind t outer p.binder sg
    else if p.kind = 7 ∨ p.kind = 8 then (fPat outer n p.first sg).bind fun x => (fPat outer n p.second x.1).bind fun y => some (y.1, x.2 || y.2)
    else some (sg, false)

section
variable (R : Int → List Int → Option Bool)

def fWithin (b body : Int) (sg : List Int) : Option Bool := if bOk t b && decide (sg.length ≤ 100000) then R body (sg ++ [b]) else none

def fFuns : List (Int × Int × Int) → List Int → Option Bool
  | [], _ => some false
  | f :: l, sg => (fWithin t R f.2.1 f.2.2 sg).bind fun x => (fFuns l sg).bind fun y => some (x || y)

def fLetRec (e : EX) (sg : List Int) : Option Bool :=
  (fBinds t sg.length e.funs sg).bind fun x => (fFuns t R e.funs x.1).bind fun y => (R e.first x.1).bind fun z => some (x.2 || y || z)

def fArms (n : Nat) : List (Int × Int) → List Int → Option Bool
  | [], _ => some false
  | a :: l, sg => (fPat t sg.length n a.1 sg).bind fun x => (R a.2 x.1).bind fun y => (fArms n l sg).bind fun z => some (x.2 || y || z)

def fMatch (n : Nat) (e : EX) (sg : List Int) : Option Bool := (R e.first sg).bind fun x => (fArms t R n e.arms sg).bind fun y => some (x || y)

def two (k : Int) : Bool := k == 7 || k == 8 || k == 16 || k == 17 || k == 18 || k == 19 || k == 20 || k == 21 || k == 25 || k == 26

def fE (n : Nat) (e : EX) (sg : List Int) : Option Bool :=
  if e.kind = 4 then some (fInner t sg e.num)
  else if e.kind = 22 ∨ e.kind = 23 ∨ e.kind = 24 then R e.first sg
  else if two e.kind then (R e.first sg).bind fun x => (R e.second sg).bind fun y => some (x || y)
  else if e.kind = 13 then (R e.first sg).bind fun x => (R e.second sg).bind fun y => (R e.third sg).bind fun z => some (x || y || z)
  else if e.kind = 12 then fWithin t R e.binder e.first sg
  else if e.kind = 10 ∨ e.kind = 15 then (R e.first sg).bind fun x => (fWithin t R e.binder e.second sg).bind fun y => some (x || y)
  else if e.kind = 11 then fLetRec t R e sg
  else if e.kind = 14 then fMatch t R n e sg
  else some false
end

def fExp : Nat → Int → List Int → Option Bool
  | 0, _, _ => none
  | n + 1, i, sg => (expAt t i).bind fun e => fE t (fExp n) n e sg
end
end Go.Proofs.YtnbhnjokpcdnnaaDoor

/- The words of a text, plain: as package words cuts them. -/
namespace Go.Proofs.YtnbhnjokpcdnnaaDoor

def isDig (c : UInt8) : Bool := decide (48 ≤ c.toNat) && decide (c.toNat ≤ 57)
def begN (c : UInt8) : Bool := decide (c.toNat = 95) || (decide (97 ≤ c.toNat) && decide (c.toNat ≤ 122))
def onN (c : UInt8) : Bool := begN c || isDig c

def kwList : List (List UInt8) := [[108, 101, 116], [114, 101, 99], [97, 110, 100], [105, 110], [102, 110], [105, 102], [116, 104, 101, 110], [101, 108, 115, 101], [109, 97, 116, 99, 104], [119, 105, 116, 104], [101, 110, 100], [116, 114, 121], [114, 97, 105, 115, 101], [99, 97, 108, 108, 99, 99], [116, 104, 114, 111, 119], [112, 114, 105, 110, 116], [114, 101, 97, 100], [116, 114, 117, 101], [102, 97, 108, 115, 101], [95]]
def sgList : List (List UInt8) := [[45, 62], [58, 58], [91, 93], [61], [60], [43], [45], [42], [47], [40], [41], [44], [124]]

/-- How the splitter stands. -/
structure SS where
  pos : Nat
  ws : List (Int × Int)
  names : List (List UInt8)

section
variable (t : List UInt8)

def sAdd (k n : Int) (s : SS) : SS := { s with ws := s.ws ++ [(k, n)] }

/-- A number goes on by a digit, while it is not too great. -/
def numStep (n : Int) (c : UInt8) : Int := if n ≤ 999999 then 10 * n + ((c.toNat : Int) - 48) else n
def numOf (ds : List UInt8) : Int := ds.foldl numStep 0

def digs (s : SS) : List UInt8 := (t.drop s.pos).takeWhile isDig
def nameOf (s : SS) : List UInt8 := (t.drop s.pos).takeWhile onN

def sNumber (s : SS) : SS × Bool := (sAdd 1 (numOf (digs t s)) { s with pos := s.pos + (digs t s).length }, decide (numOf (digs t s) ≤ 999999))

def sCount (x : List UInt8) (s : SS) : SS × Int := if s.names.idxOf x < s.names.length then (s, s.names.idxOf x) else ({ s with names := s.names ++ [x] }, s.names.length)

def sName (s : SS) : SS :=
  if kwList.idxOf (nameOf t s) < 20 then sAdd (3 + (kwList.idxOf (nameOf t s) : Nat)) 0 { s with pos := s.pos + (nameOf t s).length }
  else sAdd 2 (sCount (nameOf t s) { s with pos := s.pos + (nameOf t s).length }).2 (sCount (nameOf t s) { s with pos := s.pos + (nameOf t s).length }).1

/-- Does the text go on with that sign? -/
def signAt (s : SS) (x : List UInt8) : Bool := x.isPrefixOf (t.drop s.pos)

def sSign (s : SS) : SS × Bool :=
  if sgList.findIdx (signAt t s) < 13 then (sAdd (23 + (sgList.findIdx (signAt t s) : Nat)) 0 { s with pos := s.pos + (sgList.getD (sgList.findIdx (signAt t s)) []).length }, true) else (s, false)

def sStep (c : UInt8) (s : SS) : SS × Bool :=
  if c.toNat = 32 ∨ c.toNat = 10 then ({ s with pos := s.pos + 1 }, true)
  else if isDig c then sNumber t s
  else if begN c then (sName t s, true)
  else sSign t s

/-- All of it; n: how many steps at the most. -/
def sSplit : Nat → SS → Option (List (Int × Int) × Bool)
  | 0, _ => none
  | n + 1, s => if s.pos < t.length then (if (sStep t (t.getD s.pos 0) s).2 then sSplit n (sStep t (t.getD s.pos 0) s).1 else some ([], false)) else some (s.ws, true)
end
end Go.Proofs.YtnbhnjokpcdnnaaDoor

/- Compile, plain: the error that it answers (0: none); none: a twin's n is used up. -/
namespace Go.Proofs.YtnbhnjokpcdnnaaDoor

def rs0 : RS := ⟨0, false, [], [], []⟩

/-- Is what the reader came to an expression? -/
def rGood (ws : List (Int × Int)) (s : RS) : Bool := !s.bad && !decide (s.pos < ws.length)

def cScope (n : Nat) (x : RS × Int) : Option Int :=
  if x.1.exps.length ≤ 200000 ∧ x.1.bnds.length ≤ 200000 then (fExp x.1 n x.2 []).bind fun b => some (if b then 4 else 0) else none

def cRead (n : Nat) (ws : List (Int × Int)) : Option Int :=
  (rdr ws n 0 rs0).bind fun x => if rGood ws x.1 then cScope n x else some 3

def cErr (n : Nat) (t : List UInt8) : Option Int :=
  if 240 < t.length then some 1 else
  (sSplit t n ⟨0, [], []⟩).bind fun x => if x.2 then cRead n x.1 else some 2
end Go.Proofs.YtnbhnjokpcdnnaaDoor

/- The words of a text as package resumeref cuts them, plain. -/
namespace Go.Proofs.YtnbhnjokpcdnnaaDoor

/-- Does t stand in s at place i? -/
def standsAt (t s : List UInt8) (i : Nat) : Bool := decide (i + t.length ≤ s.length) && ((s.drop i).take t.length == t)
def inB (t s : List UInt8) : Bool := (List.range (s.length + 1)).any (standsAt t s)
def runOf (s set : List UInt8) : List UInt8 := s.takeWhile fun c => inB [c] set

def blanksR : List UInt8 := [32, 10]
def digitsR : List UInt8 := [48, 49, 50, 51, 52, 53, 54, 55, 56, 57]
def lettersR : List UInt8 := [97, 98, 99, 100, 101, 102, 103, 104, 105, 106, 107, 108, 109, 110, 111, 112, 113, 114, 115, 116, 117, 118, 119, 120, 121, 122, 95]
def lettDigR : List UInt8 := [97, 98, 99, 100, 101, 102, 103, 104, 105, 106, 107, 108, 109, 110, 111, 112, 113, 114, 115, 116, 117, 118, 119, 120, 121, 122, 95, 48, 49, 50, 51, 52, 53, 54, 55, 56, 57]
def reservedR : List UInt8 := [32, 108, 101, 116, 32, 114, 101, 99, 32, 97, 110, 100, 32, 105, 110, 32, 102, 110, 32, 105, 102, 32, 116, 104, 101, 110, 32, 101, 108, 115, 101, 32, 109, 97, 116, 99, 104, 32, 119, 105, 116, 104, 32, 101, 110, 100, 32, 116, 114, 121, 32, 114, 97, 105, 115, 101, 32, 99, 97, 108, 108, 99, 99, 32, 116, 104, 114, 111, 119, 32, 112, 114, 105, 110, 116, 32, 114, 101, 97, 100, 32, 116, 114, 117, 101, 32, 102, 97, 108, 115, 101, 32, 95, 32]
def onesR : List UInt8 := [61, 60, 43, 45, 42, 47, 40, 41, 44, 124]

/-- A word: its text, its number, whether it is a name. -/
structure RW where
  text : List UInt8
  num : Int
  isName : Bool

/-- The number that digits say; none: it is too great. -/
def valR : List UInt8 → Int → Option Int
  | [], v => some v
  | c :: l, v => if 999999 < 10 * v + (c.toNat : Int) - 48 then none else valR l (10 * v + (c.toNat : Int) - 48)

def twoR (s : List UInt8) : Bool := decide (1 < s.length) && (s.take 2 == [45, 62] || s.take 2 == [58, 58] || s.take 2 == [91, 93])
def oneR (s : List UInt8) : Bool := inB (s.take 1) onesR
def keyR (x : List UInt8) : Bool := inB ([32] ++ x ++ [32]) reservedR

def wordsR : Nat → List UInt8 → List RW → Option (List RW × Bool)
  | 0, _, _ => none
  | n + 1, s, out =>
    if s.length = 0 then some (out, true)
    else if 0 < (runOf s blanksR).length then wordsR n (s.drop (runOf s blanksR).length) out
    else if 0 < (runOf s digitsR).length then
      match valR (s.take (runOf s digitsR).length) 0 with
      | none => some ([], false)
      | some v => wordsR n (s.drop (runOf s digitsR).length) (out ++ [⟨[], v, false⟩])
    else if 0 < (runOf s lettersR).length then
      wordsR n (s.drop (runOf s lettDigR).length) (out ++ [⟨s.take (runOf s lettDigR).length, 0, !keyR (s.take (runOf s lettDigR).length)⟩])
    else if twoR s then wordsR n (s.drop 2) (out ++ [⟨s.take 2, 0, false⟩])
    else if oneR s then wordsR n (s.drop 1) (out ++ [⟨s.take 1, 0, false⟩])
    else some ([], false)

end Go.Proofs.YtnbhnjokpcdnnaaDoor

/- Both cut a text into the same words. -/
namespace Go.Proofs.YtnbhnjokpcdnnaaDoor

theorem all256 {P : UInt8 → Bool} (h : (List.range 256).all (fun n => P (UInt8.ofNat n)) = true) (c : UInt8) : P c = true := by
  rw [List.all_eq_true] at h
  have h1 := h c.toNat (List.mem_range.2 c.toNat_lt)
  rwa [UInt8.ofNat_toNat] at h1

set_option maxRecDepth 100000 in
theorem in_digits (c : UInt8) : inB [c] digitsR = isDig c := by
  have := all256 (P := fun c => inB [c] digitsR == isDig c) (by decide +kernel) c
  simpa using this
set_option maxRecDepth 100000 in
theorem in_letters (c : UInt8) : inB [c] lettersR = begN c := by
  have := all256 (P := fun c => inB [c] lettersR == begN c) (by decide +kernel) c
  simpa using this
set_option maxRecDepth 100000 in
theorem in_lettDig (c : UInt8) : inB [c] lettDigR = onN c := by
  have := all256 (P := fun c => inB [c] lettDigR == onN c) (by decide +kernel) c
  simpa using this
set_option maxRecDepth 100000 in
theorem in_blanks (c : UInt8) : inB [c] blanksR = (decide (c.toNat = 32) || decide (c.toNat = 10)) := by
  have := all256 (P := fun c => inB [c] blanksR == (decide (c.toNat = 32) || decide (c.toNat = 10))) (by decide +kernel) c
  simpa using this
set_option maxRecDepth 100000 in
theorem in_ones (c : UInt8) : inB [c] onesR = onesR.contains c := by
  have := all256 (P := fun c => inB [c] onesR == onesR.contains c) (by decide +kernel) c
  simpa using this

theorem run_digits (s : List UInt8) : runOf s digitsR = s.takeWhile isDig := by unfold runOf; simp only [in_digits]
theorem run_letters (s : List UInt8) : runOf s lettersR = s.takeWhile begN := by unfold runOf; simp only [in_letters]
theorem run_lettDig (s : List UInt8) : runOf s lettDigR = s.takeWhile onN := by unfold runOf; simp only [in_lettDig]
theorem run_blanks (s : List UInt8) : runOf s blanksR = s.takeWhile (fun c => decide (c.toNat = 32) || decide (c.toNat = 10)) := by unfold runOf; simp only [in_blanks]

theorem take_run {p : UInt8 → Bool} : ∀ s : List UInt8, s.take (s.takeWhile p).length = s.takeWhile p
  | [] => rfl
  | c :: s => by
    by_cases h : p c = true
    · simp [List.takeWhile_cons, h, take_run s]
    · simp [List.takeWhile_cons, h]

/-- Numbers. -/
theorem val_num : ∀ (ds : List UInt8) (v : Int), v ≤ 999999 → valR ds v = if ds.foldl numStep v ≤ 999999 then some (ds.foldl numStep v) else none
  | [], v, h => by simp [valR, h]
  | c :: l, v, h => by
    have e : numStep v c = 10 * v + (c.toNat : Int) - 48 := by unfold numStep; rw [if_pos h]; omega
    rw [valR, List.foldl_cons, e]
    by_cases h2 : 999999 < 10 * v + (c.toNat : Int) - 48
    · rw [if_pos h2]
      have : ∀ (l : List UInt8) (x : Int), 999999 < x → l.foldl numStep x = x := by
        intro l
        induction l with
        | nil => intro x _; rfl
        | cons d l ih =>
          intro x hx
          rw [List.foldl_cons]
          have : numStep x d = x := by unfold numStep; rw [if_neg (by omega)]
          rw [this, ih x hx]
      rw [this l _ h2, if_neg (by omega)]
    · rw [if_neg h2]
      exact val_num l _ (by omega)

/-- The texts of keywords and signs. -/
def tokList : List (List UInt8) := kwList ++ sgList

set_option maxRecDepth 100000 in
theorem res_words : ∀ i, i < 99 → reservedR.getD i 0 = 32 → (reservedR.drop (i + 1)).takeWhile (fun c => c != 32) ∈ kwList ∨ (reservedR.drop (i + 1)).takeWhile (fun c => c != 32) = [] := by decide +kernel

theorem takeWhile_pre : ∀ (x r : List UInt8), (∀ c ∈ x, c ≠ 32) → (x ++ 32 :: r).takeWhile (fun c => c != 32) = x
  | [], r, _ => by simp
  | c :: x, r, h => by
    have h1 : c ≠ 32 := h c (by simp)
    rw [List.cons_append, List.takeWhile_cons, if_pos (by simpa using h1), takeWhile_pre x r (fun d hd => h d (by simp [hd]))]

set_option maxRecDepth 100000 in
theorem key_kw (x : List UInt8) (hx : x ≠ []) (h32 : ∀ c ∈ x, c ≠ 32) : keyR x = true ↔ x ∈ kwList := by
  constructor
  · intro h
    unfold keyR inB at h
    rw [List.any_eq_true] at h
    obtain ⟨i, hi, h⟩ := h
    unfold standsAt at h
    simp only [Bool.and_eq_true, decide_eq_true_eq, beq_iff_eq] at h
    obtain ⟨h1, h2⟩ := h
    have hi' : i < 99 := by
      have : reservedR.length ≤ 99 := by decide
      simp at h1
      omega
    have e : reservedR.drop i = [32] ++ x ++ [32] ++ (reservedR.drop i).drop ([32] ++ x ++ [32]).length := by
      conv => lhs; rw [← List.take_append_drop ([32] ++ x ++ [32]).length (reservedR.drop i), h2]
    have e0 : reservedR.getD i 0 = 32 := by
      have := congrArg (fun l => l.getD 0 0) e
      simpa [List.getD_eq_getElem?_getD] using this
    have e1 : reservedR.drop (i + 1) = x ++ 32 :: (reservedR.drop i).drop ([32] ++ x ++ [32]).length := by
      have := congrArg (fun l => l.drop 1) e
      simpa [List.drop_drop] using this
    have := res_words i hi' e0
    rw [e1, takeWhile_pre x _ h32] at this
    rcases this with h | h
    · exact h
    · exact (hx h).elim
  · intro h
    have : ∀ y ∈ kwList, keyR y = true := by decide +kernel
    exact this x h

end Go.Proofs.YtnbhnjokpcdnnaaDoor

namespace Go.Proofs.YtnbhnjokpcdnnaaDoor
section
variable (t : List UInt8)

/-- The splitter comes from s to that answer. -/
def SpP (s : SS) (r : List (Int × Int) × Bool) : Prop := ∃ n, sSplit t n s = some r

variable {t}
theorem SpP.step {s : SS} {r : List (Int × Int) × Bool} (h1 : s.pos < t.length) (h2 : (sStep t (t.getD s.pos 0) s).2 = true) (h : SpP t (sStep t (t.getD s.pos 0) s).1 r) : SpP t s r := by
  obtain ⟨n, h⟩ := h
  exact ⟨n + 1, by rw [sSplit, if_pos h1, if_pos h2]; exact h⟩
theorem SpP.bad {s : SS} (h1 : s.pos < t.length) (h2 : (sStep t (t.getD s.pos 0) s).2 = false) : SpP t s ([], false) := ⟨1, by rw [sSplit, if_pos h1, if_neg (by rw [h2]; decide)]⟩
theorem SpP.done {s : SS} (h1 : ¬ s.pos < t.length) : SpP t s (s.ws, true) := ⟨1, by rw [sSplit, if_neg h1]⟩
end

/-- A word here and there. -/
def WOk (names : List (List UInt8)) (p : Int × Int) (r : RW) : Prop :=
  (r.isName = true ∧ (r.text ≠ [] ∧ r.text ∉ kwList) ∧ p.1 = 2 ∧ ∃ k : Nat, p.2 = k ∧ names[k]? = some r.text) ∨ (r.isName = false ∧ r.text = [] ∧ p = (1, r.num)) ∨ (r.isName = false ∧ ∃ k : Nat, tokList[k]? = some r.text ∧ p = (3 + (k : Int), 0))

theorem WOk.more {names : List (List UInt8)} {p : Int × Int} {r : RW} (h : WOk names p r) (l : List (List UInt8)) : WOk (names ++ l) p r := by
  rcases h with ⟨h1, h0, h2, k, h3, h4⟩ | h | h
  · exact .inl ⟨h1, h0, h2, k, h3, by rw [List.getElem?_append_left (List.getElem?_eq_some_iff.1 h4).1]; exact h4⟩
  · exact .inr (.inl h)
  · exact .inr (.inr h)

def WsOk (names : List (List UInt8)) (L : List (Int × Int)) (ws : List RW) : Prop := L.length = ws.length ∧ ∀ (i : Nat) p r, L[i]? = some p → ws[i]? = some r → WOk names p r

theorem WsOk.nil (names : List (List UInt8)) : WsOk names [] [] := ⟨rfl, fun i p r h => by simp at h⟩
theorem WsOk.snoc {names : List (List UInt8)} {L : List (Int × Int)} {ws : List RW} (h : WsOk names L ws) {p : Int × Int} {r : RW} {l : List (List UInt8)} (h1 : WOk (names ++ l) p r) : WsOk (names ++ l) (L ++ [p]) (ws ++ [r]) := by
  refine ⟨by simp [h.1], fun i q u hq hu => ?_⟩
  by_cases hi : i < L.length
  · rw [List.getElem?_append_left hi] at hq
    rw [List.getElem?_append_left (h.1 ▸ hi)] at hu
    exact (h.2 i q u hq hu).more l
  · have hl : i = L.length := by
      have := (List.getElem?_eq_some_iff.1 hq).1
      simp at this
      omega
    subst hl
    rw [h.1] at hu
    simp at hq hu
    subst hq hu
    exact h1

theorem blank_step {t : List UInt8} {s : SS} {c : UInt8} (h : (decide (c.toNat = 32) || decide (c.toNat = 10)) = true) : sStep t c s = ({ s with pos := s.pos + 1 }, true) := by
  unfold sStep
  rw [if_pos (by simpa using h)]

theorem getD_drop {t : List UInt8} {p : Nat} {c : UInt8} {l : List UInt8} (h : t.drop p = c :: l) : p < t.length ∧ t.getD p 0 = c ∧ t.drop (p + 1) = l := by
  have h1 : p < t.length := by
    by_cases h1 : p < t.length
    · exact h1
    · rw [List.drop_eq_nil_of_le (by omega)] at h; cases h
  rw [List.drop_eq_getElem_cons h1] at h
  injection h with h2 h3
  exact ⟨h1, by rw [List.getD_eq_getElem?_getD, List.getElem?_eq_getElem h1]; exact h2, h3⟩

/-- A run of blanks. -/
theorem blank_run {t : List UInt8} {r : List (Int × Int) × Bool} {ws : List (Int × Int)} {names : List (List UInt8)} : ∀ (l : List UInt8) (p : Nat), t.drop p = l →
    SpP t ⟨p + (l.takeWhile (fun c => decide (c.toNat = 32) || decide (c.toNat = 10))).length, ws, names⟩ r → SpP t ⟨p, ws, names⟩ r
  | [], p, _, h => by simpa using h
  | c :: l, p, hp, h => by
    obtain ⟨h1, h2, h3⟩ := getD_drop hp
    by_cases hb : (decide (c.toNat = 32) || decide (c.toNat = 10)) = true
    · rw [List.takeWhile_cons, if_pos hb] at h
      refine SpP.step h1 ?_ ?_
      · show (sStep t (t.getD p 0) _).2 = true
        rw [h2, blank_step hb]
      · show SpP t (sStep t (t.getD p 0) _).1 r
        rw [h2, blank_step hb]
        refine blank_run l (p + 1) h3 ?_
        simpa [Nat.add_assoc, Nat.add_comm 1] using h
    · rw [List.takeWhile_cons, if_neg hb] at h
      simpa using h

theorem on_not32 (c : UInt8) (h : onN c = true) : c ≠ 32 := by
  rintro rfl
  revert h
  decide

theorem kw_tok {x : List UInt8} (h : x ∈ kwList) : tokList[kwList.idxOf x]? = some x := by
  have h1 : kwList.idxOf x < kwList.length := List.idxOf_lt_length_iff.2 h
  unfold tokList
  rw [List.getElem?_append_left h1]
  rw [List.getElem?_eq_getElem h1, List.getElem_idxOf h1]

theorem sg_tok {k : Nat} (h : k < 13) : tokList[20 + k]? = sgList[k]? := by
  unfold tokList
  rw [List.getElem?_append_right (by simp [kwList]), show 20 + k - kwList.length = k by simp [kwList]]

theorem idx_name {names : List (List UInt8)} {x : List UInt8} (h : x ∈ names) : names[names.idxOf x]? = some x := by
  have h1 : names.idxOf x < names.length := List.idxOf_lt_length_iff.2 h
  rw [List.getElem?_eq_getElem h1, List.getElem_idxOf h1]

/-- Where a sign is found. -/
theorem sign_two (s : List UInt8) (c : UInt8) (l : List UInt8) (hs : s = c :: l) (h : twoR s = true) : ∃ k, k < 3 ∧ sgList.findIdx (fun x => x.isPrefixOf s) = k ∧ sgList.getD k [] = s.take 2 := by
  subst hs
  unfold twoR at h
  simp only [Bool.and_eq_true, Bool.or_eq_true, beq_iff_eq, decide_eq_true_eq] at h
  match l, h with
  | d :: l, h =>
    simp only [List.take_succ_cons, List.take_zero, List.cons.injEq, and_true] at h
    rcases h.2 with (⟨rfl, rfl⟩ | ⟨rfl, rfl⟩) | ⟨rfl, rfl⟩
    · exact ⟨0, by decide, by simp [sgList, List.findIdx_cons, List.isPrefixOf], rfl⟩
    · exact ⟨1, by decide, by simp [sgList, List.findIdx_cons, List.isPrefixOf], rfl⟩
    · exact ⟨2, by decide, by simp [sgList, List.findIdx_cons, List.isPrefixOf], rfl⟩
  | [], h => simp at h

theorem pre2 {a b : UInt8} {s : List UInt8} (h : ¬ s.take 2 = [a, b]) : List.isPrefixOf [a, b] s = false := by
  match s with
  | [] => rfl
  | [c] => simp [List.isPrefixOf]
  | c :: d :: l =>
    simp only [List.take_succ_cons, List.take_zero, List.cons.injEq, and_true] at h
    simp only [List.isPrefixOf, Bool.and_true, Bool.and_eq_false_iff, beq_eq_false_iff_ne]
    by_cases h1 : a = c
    · right
      rintro rfl
      exact h ⟨h1.symm, rfl⟩
    · exact .inl h1

theorem sign_none2 (s : List UInt8) (h : twoR s = false) : List.isPrefixOf [45, 62] s = false ∧ List.isPrefixOf [58, 58] s = false ∧ List.isPrefixOf [91, 93] s = false := by
  unfold twoR at h
  by_cases hl : 1 < s.length
  · simp only [hl, decide_true, Bool.true_and, Bool.or_eq_false_iff, beq_eq_false_iff_ne] at h
    exact ⟨pre2 h.1.1, pre2 h.1.2, pre2 h.2⟩
  · have : ∀ a b : UInt8, List.isPrefixOf [a, b] s = false := by
      intro a b
      refine pre2 (fun h => ?_)
      have := congrArg List.length h
      simp at this
      omega
    exact ⟨this _ _, this _ _, this _ _⟩

theorem sign_one (c : UInt8) (l : List UInt8) (h2 : twoR (c :: l) = false) (h : onesR.contains c = true) : ∃ k, k < 13 ∧ sgList.findIdx (fun x => x.isPrefixOf (c :: l)) = k ∧ sgList.getD k [] = [c] := by
  obtain ⟨g1, g2, g3⟩ := sign_none2 _ h2
  have hc : c ∈ onesR := by simpa using h
  simp only [onesR, List.mem_cons, List.not_mem_nil, or_false] at hc
  rcases hc with rfl | rfl | rfl | rfl | rfl | rfl | rfl | rfl | rfl | rfl
  all_goals
    simp only [sgList, List.findIdx_cons, g1, g2, g3]
  · exact ⟨3, by decide, by simp [List.isPrefixOf], rfl⟩
  · exact ⟨4, by decide, by simp [List.isPrefixOf], rfl⟩
  · exact ⟨5, by decide, by simp [List.isPrefixOf], rfl⟩
  · exact ⟨6, by decide, by simp [List.isPrefixOf], rfl⟩
  · exact ⟨7, by decide, by simp [List.isPrefixOf], rfl⟩
  · exact ⟨8, by decide, by simp [List.isPrefixOf], rfl⟩
  · exact ⟨9, by decide, by simp [List.isPrefixOf], rfl⟩
  · exact ⟨10, by decide, by simp [List.isPrefixOf], rfl⟩
  · exact ⟨11, by decide, by simp [List.isPrefixOf], rfl⟩
  · exact ⟨12, by decide, by simp [List.isPrefixOf], rfl⟩

theorem sign_no (c : UInt8) (l : List UInt8) (h2 : twoR (c :: l) = false) (h : onesR.contains c = false) : ¬ sgList.findIdx (fun x => x.isPrefixOf (c :: l)) < 13 := by
  obtain ⟨g1, g2, g3⟩ := sign_none2 _ h2
  have hc : c ∉ onesR := by simpa using h
  simp only [onesR, List.mem_cons, List.not_mem_nil, or_false, not_or] at hc
  obtain ⟨h1, h2, h3, h4, h5, h6, h7, h8, h9, h10⟩ := hc
  have e : ∀ a : UInt8, ¬ c = a → List.isPrefixOf [a] (c :: l) = false := by
    intro a h
    simp [List.isPrefixOf]
    exact fun h' => h h'.symm
  simp only [sgList, List.findIdx_cons, g1, g2, g3, e _ h1, e _ h2, e _ h3, e _ h4, e _ h5, e _ h6, e _ h7, e _ h8, e _ h9, e _ h10, cond_false, List.findIdx_nil]
  decide

end Go.Proofs.YtnbhnjokpcdnnaaDoor

namespace Go.Proofs.YtnbhnjokpcdnnaaDoor

theorem run_pos {p : UInt8 → Bool} {c : UInt8} {l : List UInt8} : 0 < ((c :: l).takeWhile p).length ↔ p c = true := by
  rw [List.takeWhile_cons]
  by_cases h : p c = true
  · simp [h]
  · simp [h]

theorem name_on {p : UInt8 → Bool} : ∀ (s : List UInt8), ∀ c ∈ s.takeWhile p, p c = true
  | [], c, h => by simp at h
  | d :: s, c, h => by
    rw [List.takeWhile_cons] at h
    by_cases hd : p d = true
    · rw [if_pos hd] at h
      rcases List.mem_cons.1 h with rfl | h
      · exact hd
      · exact name_on s c h
    · rw [if_neg hd] at h
      cases h

theorem kw_ne {x : List UInt8} (h : x ∈ kwList) : x ≠ [] := by
  rintro rfl
  revert h
  decide

theorem nodup_snoc {names : List (List UInt8)} (h : names.Nodup) {x : List UInt8} (hx : x ∉ names) : (names ++ [x]).Nodup := by
  rw [List.nodup_append]
  refine ⟨h, by simp, ?_⟩
  intro a ha b hb
  simp at hb
  subst hb
  rintro rfl
  exact hx ha

set_option maxHeartbeats 1000000 in
theorem words_agree {t : List UInt8} : ∀ (n : Nat) (s : List UInt8) (out : List RW) (L0 : List (Int × Int)) (names : List (List UInt8)) (p : Nat), t.drop p = s → names.Nodup → WsOk names L0 out → ∀ ws ok, wordsR n s out = some (ws, ok) →
    ∃ L, SpP t ⟨p, L0, names⟩ (L, ok) ∧ (ok = true → ∃ names', names'.Nodup ∧ WsOk names' L ws)
  | 0, _, _, _, _, _, _, _, _, _, _, h => by cases h
  | n + 1, [], out, L0, names, p, hp, hN, hW, ws, ok, h => by
    simp [wordsR] at h
    obtain ⟨rfl, rfl⟩ := h
    have : ¬ p < t.length := by
      intro h
      have := congrArg List.length hp
      simp at this
      omega
    exact ⟨L0, SpP.done this, fun _ => ⟨names, hN, hW⟩⟩
  | n + 1, c :: l, out, L0, names, p, hp, hN, hW, ws, ok, h => by
    obtain ⟨hlt, hc, hdr⟩ := getD_drop hp
    have hdrop : ∀ k, t.drop (p + k) = (c :: l).drop k := by
      intro k
      rw [← hp, List.drop_drop]
    rw [wordsR, if_neg (by simp)] at h
    simp only [run_blanks, run_digits, run_letters, run_lettDig, take_run] at h
    by_cases hb : (decide (c.toNat = 32) || decide (c.toNat = 10)) = true
    · rw [if_pos (run_pos.2 hb)] at h
      obtain ⟨L, h1, h2⟩ := words_agree n _ out L0 names _ (hdrop _) hN hW ws ok h
      exact ⟨L, blank_run _ p hp h1, h2⟩
    rw [if_neg (fun h => hb (run_pos.1 h))] at h
    have hb' : ¬ (c.toNat = 32 ∨ c.toNat = 10) := by simpa using hb
    by_cases hd : isDig c = true
    · rw [if_pos (run_pos.2 hd), val_num _ _ (by omega)] at h
      have hst : sStep t c ⟨p, L0, names⟩ = sNumber t ⟨p, L0, names⟩ := by unfold sStep; rw [if_neg hb', if_pos hd]
      have hdg : digs t ⟨p, L0, names⟩ = (c :: l).takeWhile isDig := by unfold digs; rw [← hp]
      unfold sNumber at hst
      rw [hdg] at hst
      by_cases hv : List.foldl numStep 0 ((c :: l).takeWhile isDig) ≤ 999999
      · rw [if_pos hv] at h
        obtain ⟨L, h1, h2⟩ := words_agree n _ _ (L0 ++ [(1, numOf ((c :: l).takeWhile isDig))]) names _ (hdrop _) hN (by have := hW.snoc (l := []) (p := (1, numOf ((c :: l).takeWhile isDig))) (r := ⟨[], List.foldl numStep 0 ((c :: l).takeWhile isDig), false⟩) (.inr (.inl ⟨rfl, rfl, rfl⟩)); simpa using this) ws ok h
        refine ⟨L, SpP.step hlt ?_ ?_, h2⟩
        · show (sStep t (t.getD p 0) _).2 = true
          rw [hc, hst]
          exact decide_eq_true hv
        · show SpP t (sStep t (t.getD p 0) _).1 _
          rw [hc, hst]
          exact h1
      · rw [if_neg hv] at h
        simp at h
        obtain ⟨rfl, rfl⟩ := h
        refine ⟨[], SpP.bad hlt ?_, fun h => by cases h⟩
        show (sStep t (t.getD p 0) _).2 = false
        rw [hc, hst]
        exact decide_eq_false hv
    rw [if_neg (fun h => hd (run_pos.1 h))] at h
    by_cases hl : begN c = true
    · rw [if_pos (run_pos.2 hl)] at h
      have hon : onN c = true := by unfold onN; rw [hl]; rfl
      have hst : sStep t c ⟨p, L0, names⟩ = (sName t ⟨p, L0, names⟩, true) := by unfold sStep; rw [if_neg hb', if_neg hd, if_pos hl]
      have hnm : nameOf t ⟨p, L0, names⟩ = (c :: l).takeWhile onN := by unfold nameOf; rw [← hp]
      unfold sName at hst
      rw [hnm] at hst
      have hne : (c :: l).takeWhile onN ≠ [] := by rw [List.takeWhile_cons, if_pos hon]; simp
      have hkw := key_kw _ hne (fun d hd => on_not32 d (name_on _ d hd))
      by_cases hk : (c :: l).takeWhile onN ∈ kwList
      · have hk2 : kwList.idxOf ((c :: l).takeWhile onN) < 20 := List.idxOf_lt_length_iff.2 hk
        rw [if_pos hk2] at hst
        have hkt : keyR ((c :: l).takeWhile onN) = true := hkw.2 hk
        obtain ⟨L, h1, h2⟩ := words_agree n _ _ (L0 ++ [(3 + ((kwList.idxOf ((c :: l).takeWhile onN) : Nat) : Int), (0 : Int))]) names _ (hdrop _) hN (by have := hW.snoc (l := []) (p := (3 + ((kwList.idxOf ((c :: l).takeWhile onN) : Nat) : Int), (0 : Int))) (r := ⟨(c :: l).takeWhile onN, 0, !keyR ((c :: l).takeWhile onN)⟩) (.inr (.inr ⟨by simp [hkt], _, kw_tok hk, rfl⟩)); simpa using this) ws ok h
        refine ⟨L, SpP.step hlt ?_ ?_, h2⟩
        · show (sStep t (t.getD p 0) _).2 = true
          rw [hc, hst]
        · show SpP t (sStep t (t.getD p 0) _).1 _
          rw [hc, hst]
          exact h1
      · have hk2 : ¬ kwList.idxOf ((c :: l).takeWhile onN) < 20 := fun h => hk (List.idxOf_lt_length_iff.1 h)
        rw [if_neg hk2] at hst
        have hkt : keyR ((c :: l).takeWhile onN) = false := by
          cases hx : keyR ((c :: l).takeWhile onN) with
          | false => rfl
          | true => exact (hk (hkw.1 hx)).elim
        by_cases hm : (c :: l).takeWhile onN ∈ names
        · have hsc : sCount ((c :: l).takeWhile onN) (⟨p + ((c :: l).takeWhile onN).length, L0, names⟩ : SS) = ((⟨p + ((c :: l).takeWhile onN).length, L0, names⟩ : SS), ((names.idxOf ((c :: l).takeWhile onN) : Nat) : Int)) := by
            unfold sCount
            rw [if_pos (List.idxOf_lt_length_iff.2 hm)]
          obtain ⟨L, h1, h2⟩ := words_agree n _ _ (L0 ++ [(2, ((names.idxOf ((c :: l).takeWhile onN) : Nat) : Int))]) names _ (hdrop _) hN (by have := hW.snoc (l := []) (p := (2, ((names.idxOf ((c :: l).takeWhile onN) : Nat) : Int))) (r := ⟨(c :: l).takeWhile onN, 0, !keyR ((c :: l).takeWhile onN)⟩) (.inl ⟨by simp [hkt], ⟨hne, hk⟩, rfl, _, rfl, by rw [List.append_nil]; exact idx_name hm⟩); simpa using this) ws ok h
          refine ⟨L, SpP.step hlt ?_ ?_, h2⟩
          · show (sStep t (t.getD p 0) _).2 = true
            rw [hc, hst]
          · show SpP t (sStep t (t.getD p 0) _).1 _
            rw [hc, hst]
            simp only [hsc]
            exact h1
        · have hsc : sCount ((c :: l).takeWhile onN) (⟨p + ((c :: l).takeWhile onN).length, L0, names⟩ : SS) = ((⟨p + ((c :: l).takeWhile onN).length, L0, names ++ [(c :: l).takeWhile onN]⟩ : SS), ((names.length : Nat) : Int)) := by
            unfold sCount
            rw [if_neg (fun h => hm (List.idxOf_lt_length_iff.1 h))]
          obtain ⟨L, h1, h2⟩ := words_agree n _ _ (L0 ++ [(2, (names.length : Int))]) (names ++ [(c :: l).takeWhile onN]) _ (hdrop _) (nodup_snoc hN hm) (hW.snoc (p := (2, (names.length : Int))) (r := ⟨(c :: l).takeWhile onN, 0, !keyR ((c :: l).takeWhile onN)⟩) (.inl ⟨by simp [hkt], ⟨hne, hk⟩, rfl, _, rfl, by simp⟩)) ws ok h
          refine ⟨L, SpP.step hlt ?_ ?_, h2⟩
          · show (sStep t (t.getD p 0) _).2 = true
            rw [hc, hst]
          · show SpP t (sStep t (t.getD p 0) _).1 _
            rw [hc, hst]
            simp only [hsc]
            exact h1
    rw [if_neg (fun h => hl (run_pos.1 h))] at h
    have hst : sStep t c ⟨p, L0, names⟩ = sSign t ⟨p, L0, names⟩ := by unfold sStep; rw [if_neg hb', if_neg hd, if_neg hl]
    have hsg : signAt t ⟨p, L0, names⟩ = fun x => x.isPrefixOf (c :: l) := by
      funext x
      unfold signAt
      rw [← hp]
    unfold sSign at hst
    rw [hsg] at hst
    by_cases h2 : twoR (c :: l) = true
    · rw [if_pos h2] at h
      obtain ⟨k, hk, hf, hg⟩ := sign_two (c :: l) c l rfl h2
      rw [hf, if_pos (by omega)] at hst
      have hlen : (sgList.getD k []).length = 2 := by
        have : k = 0 ∨ k = 1 ∨ k = 2 := by omega
        rcases this with rfl | rfl | rfl <;> rfl
      obtain ⟨L, h1, h3⟩ := words_agree n _ _ (L0 ++ [(23 + (k : Int), 0)]) names _ (hdrop 2) hN (by have := hW.snoc (l := []) (p := (23 + (k : Int), 0)) (r := ⟨(c :: l).take 2, 0, false⟩) (.inr (.inr ⟨rfl, 20 + k, by rw [sg_tok (by omega), ← hg, List.getD_eq_getElem?_getD]; have : k < sgList.length := (by have : sgList.length = 13 := rfl; omega); rw [List.getElem?_eq_getElem this]; rfl, by simp; omega⟩)); simpa using this) ws ok h
      refine ⟨L, SpP.step hlt ?_ ?_, h3⟩
      · show (sStep t (t.getD p 0) _).2 = true
        rw [hc, hst]
      · show SpP t (sStep t (t.getD p 0) _).1 _
        rw [hc, hst, hlen]
        exact h1
    rw [if_neg h2] at h
    have h2' : twoR (c :: l) = false := by simpa using h2
    have ho : oneR (c :: l) = onesR.contains c := by
      unfold oneR
      exact in_ones c
    by_cases h1 : onesR.contains c = true
    · rw [if_pos (ho.trans h1)] at h
      obtain ⟨k, hk, hf, hg⟩ := sign_one c l h2' h1
      rw [hf, if_pos hk, hg] at hst
      obtain ⟨L, h1, h3⟩ := words_agree n _ _ (L0 ++ [(23 + (k : Int), 0)]) names _ (hdrop 1) hN (by have := hW.snoc (l := []) (p := (23 + (k : Int), 0)) (r := ⟨(c :: l).take 1, 0, false⟩) (.inr (.inr ⟨rfl, 20 + k, by rw [sg_tok hk]; have h13 : k < sgList.length := hk; rw [List.getD_eq_getElem?_getD, List.getElem?_eq_getElem h13] at hg; rw [List.getElem?_eq_getElem h13]; exact congrArg some hg, by simp; omega⟩)); simpa using this) ws ok h
      refine ⟨L, SpP.step hlt ?_ ?_, h3⟩
      · show (sStep t (t.getD p 0) _).2 = true
        rw [hc, hst]
      · show SpP t (sStep t (t.getD p 0) _).1 _
        rw [hc, hst]
        exact h1
    · have h1' : onesR.contains c = false := by simpa using h1
      rw [if_neg (by rw [ho]; exact h1)] at h
      rw [if_neg (sign_no c l h2' h1')] at hst
      simp at h
      obtain ⟨rfl, rfl⟩ := h
      refine ⟨[], SpP.bad hlt ?_, fun h => by cases h⟩
      show (sStep t (t.getD p 0) _).2 = false
      rw [hc, hst]

/-- The reference's words come to an end. -/
theorem wordsR_some : ∀ (n : Nat) (s : List UInt8) (out : List RW), s.length < n → ∃ r, wordsR n s out = some r
  | 0, _, _, h => by omega
  | n + 1, s, out, h => by
    rw [wordsR]
    split
    · exact ⟨_, rfl⟩
    split
    · exact wordsR_some n _ _ (by simp; omega)
    split
    · split
      · exact ⟨_, rfl⟩
      · exact wordsR_some n _ _ (by simp; omega)
    split
    · rename_i h0 _ _ h1
      refine wordsR_some n _ _ ?_
      match s, h0, h1, h with
      | c :: l, _, h1, h =>
        rw [run_letters] at h1
        have hb := run_pos.1 h1
        have : 0 < (runOf (c :: l) lettDigR).length := by
          rw [run_lettDig]
          exact run_pos.2 (by unfold onN; rw [hb]; rfl)
        simp at h ⊢
        omega
      | [], h0, _, _ => exact (h0 rfl).elim
    split
    · rename_i h2
      refine wordsR_some n _ _ ?_
      unfold twoR at h2
      simp at h2 ⊢
      omega
    split
    · exact wordsR_some n _ _ (by simp; omega)
    · exact ⟨_, rfl⟩

end Go.Proofs.YtnbhnjokpcdnnaaDoor

/- What a stretch of words is, by the document's grammar, cut in any way: a relation. A tree is a Code: 'cond' a node (its label: kind, number, name, own name), 'seq' and 'skip' lists. -/
namespace Go.Proofs.YtnbhnjokpcdnnaaDoor

def toC : List Code → Code
  | [] => .skip
  | a :: l => .seq a (toC l)

def lab (k : List UInt8) (n : Int) (nm ow : List UInt8) : Value := .tuple #[.string ⟨k.toArray⟩, .int .i64 n, .string ⟨nm.toArray⟩, .string ⟨ow.toArray⟩]

def nd (k : List UInt8) (n : Int) (nm ow : List UInt8) (subs pats : List Code) : Code := .cond (.const (lab k n nm ow)) (toC subs) (toC pats)

section
variable (ws : List RW)

def wAt (i : Nat) : RW := ws.getD i ⟨[], 0, false⟩
/-- Is word i that text, and no name? -/
def wd (i : Nat) (s : List UInt8) : Bool := decide (i < ws.length) && ((wAt ws i).text == s) && !(wAt ws i).isName
def isNm (i : Nat) : Bool := decide (i < ws.length) && (wAt ws i).isName
def tx (i : Nat) : List UInt8 := (wAt ws i).text
def opK (p : Nat) : List UInt8 := if tx ws p = [58, 58] then [99, 111, 110, 115] else tx ws p

/-- One word as an atom. -/
def one1 (i : Nat) (t : Code) : Prop :=
  if (wAt ws i).isName then t = nd [118, 97, 114] 0 (tx ws i) [] [] []
  else if tx ws i = [] then t = nd [110, 117, 109] (wAt ws i).num [] [] [] []
  else if tx ws i = [116, 114, 117, 101] then t = nd [98, 111, 111, 108] 1 [] [] [] []
  else if tx ws i = [102, 97, 108, 115, 101] then t = nd [98, 111, 111, 108] 0 [] [] [] []
  else if tx ws i = [91, 93] then t = nd [110, 105, 108] 0 [] [] [] []
  else if tx ws i = [114, 101, 97, 100] then t = nd [114, 101, 97, 100] 0 [] [] [] []
  else False

section
variable (R : Nat → Nat → Nat → Code → Prop)

def bInf (i j left right alone : Nat) (one other : List UInt8) (t : Code) : Prop :=
  R alone i j t ∨ ∃ p a b, i < p ∧ p < j ∧ (wd ws p one = true ∨ wd ws p other = true) ∧ R left i p a ∧ R right (p + 1) j b ∧ t = nd (opK ws p) 0 [] [] [a, b] []

def bLet (i j : Nat) (t : Code) : Prop :=
  (wd ws (i + 1) [114, 101, 99] = true ∧ ∃ p ds b, i + 2 ≤ p ∧ p < j ∧ wd ws p [105, 110] = true ∧ R 10 (i + 2) p (nd [100, 101, 102, 115] 0 [] [] ds []) ∧ R 0 (p + 1) j b ∧ t = nd [114, 101, 99] 0 [] [] (ds ++ [b]) []) ∨
  (isNm ws (i + 1) = true ∧ wd ws (i + 2) [61] = true ∧ ∃ p a b, i + 2 ≤ p ∧ p < j ∧ wd ws p [105, 110] = true ∧ R 0 (i + 3) p a ∧ R 0 (p + 1) j b ∧ t = nd [108, 101, 116] 0 (tx ws (i + 1)) [] [a, b] [])

def bFn (i j : Nat) (t : Code) : Prop := isNm ws (i + 1) = true ∧ wd ws (i + 2) [45, 62] = true ∧ ∃ b, R 0 (i + 3) j b ∧ t = nd [102, 110] 0 (tx ws (i + 1)) [] [b] []

def bIf (i j : Nat) (t : Code) : Prop :=
  ∃ p q a b d, i + 2 ≤ p ∧ p < j ∧ wd ws p [116, 104, 101, 110] = true ∧ R 0 (i + 1) p a ∧ p + 2 ≤ q ∧ q < j ∧ wd ws q [101, 108, 115, 101] = true ∧ R 0 (p + 1) q b ∧ R 0 (q + 1) j d ∧ t = nd [105, 102] 0 [] [] [a, b, d] []

def bMatch (i j : Nat) (t : Code) : Prop :=
  wd ws (j - 1) [101, 110, 100] = true ∧ ∃ p a bs qs, i + 2 ≤ p ∧ p < j ∧ wd ws p [119, 105, 116, 104] = true ∧ R 0 (i + 1) p a ∧ R 9 (p + 1) (j - 1) (nd [99, 108, 97, 117, 115, 101, 115] 0 [] [] bs qs) ∧ t = nd [109, 97, 116, 99, 104] 0 [] [] (a :: bs) qs

def bTry (i j : Nat) (t : Code) : Prop :=
  wd ws (j - 1) [101, 110, 100] = true ∧ ∃ p a b, i + 2 ≤ p ∧ p < j ∧ wd ws p [119, 105, 116, 104] = true ∧ R 0 (i + 1) p a ∧ isNm ws (p + 1) = true ∧ wd ws (p + 2) [45, 62] = true ∧ R 0 (p + 3) (j - 1) b ∧ t = nd [116, 114, 121] 0 (tx ws (p + 1)) [] [a, b] []

def bExp (i j : Nat) (t : Code) : Prop :=
  if wd ws i [108, 101, 116] then bLet ws R i j t else if wd ws i [102, 110] then bFn ws R i j t else if wd ws i [105, 102] then bIf ws R i j t
  else if wd ws i [109, 97, 116, 99, 104] then bMatch ws R i j t else if wd ws i [116, 114, 121] then bTry ws R i j t else R 1 i j t

def bDefs (i j : Nat) (t : Code) : Prop :=
  isNm ws i = true ∧ isNm ws (i + 1) = true ∧ wd ws (i + 2) [61] = true ∧ ∃ p b, i + 4 ≤ p ∧ p ≤ j ∧ R 0 (i + 3) p b ∧
    ((p = j ∧ t = nd [100, 101, 102, 115] 0 [] [] [nd [100, 101, 102] 0 (tx ws (i + 1)) (tx ws i) [b] []] []) ∨
     (p < j ∧ wd ws p [97, 110, 100] = true ∧ ∃ ds, R 10 (p + 1) j (nd [100, 101, 102, 115] 0 [] [] ds []) ∧ t = nd [100, 101, 102, 115] 0 [] [] (nd [100, 101, 102] 0 (tx ws (i + 1)) (tx ws i) [b] [] :: ds) []))

def bClauses (i j : Nat) (t : Code) : Prop :=
  ∃ p q, i + 1 ≤ p ∧ p < j ∧ wd ws p [45, 62] = true ∧ R 7 i p q ∧ ∃ e b, p + 2 ≤ e ∧ e ≤ j ∧ R 0 (p + 1) e b ∧
    ((e = j ∧ t = nd [99, 108, 97, 117, 115, 101, 115] 0 [] [] [b] [q]) ∨ (e < j ∧ wd ws e [124] = true ∧ ∃ bs qs, R 9 (e + 1) j (nd [99, 108, 97, 117, 115, 101, 115] 0 [] [] bs qs) ∧ t = nd [99, 108, 97, 117, 115, 101, 115] 0 [] [] (b :: bs) (q :: qs)))

def isPre (i : Nat) : Bool := !(wAt ws i).isName && (tx ws i == [114, 97, 105, 115, 101] || tx ws i == [99, 97, 108, 108, 99, 99] || tx ws i == [112, 114, 105, 110, 116])

def bApp (i j : Nat) (t : Code) : Prop :=
  if isPre ws i then ∃ a, R 6 (i + 1) j a ∧ t = nd (tx ws i) 0 [] [] [a] []
  else if wd ws i [116, 104, 114, 111, 119] then (∃ p a b, i < p ∧ p < j ∧ R 6 p j b ∧ R 6 (i + 1) p a ∧ t = nd [116, 104, 114, 111, 119] 0 [] [] [a, b] []) ∨ R 6 i j t
  else (∃ p a b, i < p ∧ p < j ∧ R 6 p j b ∧ R 5 i p a ∧ t = nd [99, 97, 108, 108] 0 [] [] [a, b] []) ∨ R 6 i j t

def bRound (i j k : Nat) (t : Code) : Prop :=
  wd ws i [40] = true ∧ wd ws (j - 1) [41] = true ∧ (R k (i + 1) (j - 1) t ∨ ∃ p a b, i + 2 ≤ p ∧ p < j - 1 ∧ wd ws p [44] = true ∧ R k (i + 1) p a ∧ R k (p + 1) (j - 1) b ∧ t = nd [112, 97, 105, 114] 0 [] [] [a, b] [])

def bAtom (i j : Nat) (t : Code) : Prop := if j = i + 1 then one1 ws i t else bRound ws R i j 0 t

def bSimple (i j : Nat) (t : Code) : Prop :=
  if i + 1 < j then bRound ws R i j 7 t else if tx ws i = [95] then t = nd [97, 110, 121] 0 [] [] [] [] else one1 ws i t ∧ ¬ ((wAt ws i).isName = false ∧ tx ws i = [114, 101, 97, 100])

def Bd (k i j : Nat) (t : Code) : Prop :=
  i < j ∧ (match k with
    | 0 => bExp ws R i j t
    | 1 => bInf ws R i j 2 2 2 [61] [60] t
    | 2 => bInf ws R i j 3 2 3 [58, 58] [58, 58] t
    | 3 => bInf ws R i j 3 4 4 [43] [45] t
    | 4 => bInf ws R i j 4 5 5 [42] [47] t
    | 5 => bApp ws R i j t
    | 6 => bAtom ws R i j t
    | 7 => bInf ws R i j 8 7 8 [58, 58] [58, 58] t
    | 8 => bSimple ws R i j t
    | 9 => bClauses ws R i j t
    | 10 => bDefs ws R i j t
    | _ => False)
end

def der : Nat → Nat → Nat → Nat → Code → Prop
  | 0, _, _, _, _ => False
  | n + 1, k, i, j, t => Bd ws (der n) k i j t

/-- The stretch i to j - 1 is a k: the tree t. -/
def Dv (k i j : Nat) (t : Code) : Prop := ∃ n, der ws n k i j t
end
end Go.Proofs.YtnbhnjokpcdnnaaDoor

namespace Go.Proofs.YtnbhnjokpcdnnaaDoor
section
variable {ws : List RW} {R R' : Nat → Nat → Nat → Code → Prop}

theorem bInf_mono (h : ∀ k i j t, R k i j t → R' k i j t) {i j l r a : Nat} {x y : List UInt8} {t : Code} : bInf ws R i j l r a x y t → bInf ws R' i j l r a x y t := by
  rintro (h1 | ⟨p, a, b, h1, h2, h3, h4, h5, h6⟩)
  · exact .inl (h _ _ _ _ h1)
  · exact .inr ⟨p, a, b, h1, h2, h3, h _ _ _ _ h4, h _ _ _ _ h5, h6⟩

theorem bRound_mono (h : ∀ k i j t, R k i j t → R' k i j t) {i j k : Nat} {t : Code} : bRound ws R i j k t → bRound ws R' i j k t := by
  rintro ⟨h1, h2, h3 | ⟨p, a, b, h3, h4, h5, h6, h7, h8⟩⟩
  · exact ⟨h1, h2, .inl (h _ _ _ _ h3)⟩
  · exact ⟨h1, h2, .inr ⟨p, a, b, h3, h4, h5, h _ _ _ _ h6, h _ _ _ _ h7, h8⟩⟩

theorem bExp_mono (h : ∀ k i j t, R k i j t → R' k i j t) {i j : Nat} {t : Code} : bExp ws R i j t → bExp ws R' i j t := by
  unfold bExp
  intro hh
  split at hh
  · rename_i h0
    rw [if_pos h0]
    rcases hh with ⟨h1, p, ds, b, h2, h3, h4, h5, h6, h7⟩ | ⟨h1, h2, p, a, b, h3, h4, h5, h6, h7, h8⟩
    · exact .inl ⟨h1, p, ds, b, h2, h3, h4, h _ _ _ _ h5, h _ _ _ _ h6, h7⟩
    · exact .inr ⟨h1, h2, p, a, b, h3, h4, h5, h _ _ _ _ h6, h _ _ _ _ h7, h8⟩
  rename_i h0
  rw [if_neg h0]
  split at hh
  · rename_i h1
    rw [if_pos h1]
    obtain ⟨h2, h3, b, h4, h5⟩ := hh
    exact ⟨h2, h3, b, h _ _ _ _ h4, h5⟩
  rename_i h1
  rw [if_neg h1]
  split at hh
  · rename_i h2
    rw [if_pos h2]
    obtain ⟨p, q, a, b, d, g1, g2, g3, g4, g5, g6, g7, g8, g9, g10⟩ := hh
    exact ⟨p, q, a, b, d, g1, g2, g3, h _ _ _ _ g4, g5, g6, g7, h _ _ _ _ g8, h _ _ _ _ g9, g10⟩
  rename_i h2
  rw [if_neg h2]
  split at hh
  · rename_i h3
    rw [if_pos h3]
    obtain ⟨g0, p, a, bs, qs, g1, g2, g3, g4, g5, g6⟩ := hh
    exact ⟨g0, p, a, bs, qs, g1, g2, g3, h _ _ _ _ g4, h _ _ _ _ g5, g6⟩
  rename_i h3
  rw [if_neg h3]
  split at hh
  · rename_i h4
    rw [if_pos h4]
    obtain ⟨g0, p, a, b, g1, g2, g3, g4, g5, g6, g7, g8⟩ := hh
    exact ⟨g0, p, a, b, g1, g2, g3, h _ _ _ _ g4, g5, g6, h _ _ _ _ g7, g8⟩
  · rename_i h4
    rw [if_neg h4]
    exact h _ _ _ _ hh

theorem bDefs_mono (h : ∀ k i j t, R k i j t → R' k i j t) {i j : Nat} {t : Code} : bDefs ws R i j t → bDefs ws R' i j t := by
  rintro ⟨g1, g2, g3, p, b, g4, g5, g6, ⟨g7, g8⟩ | ⟨g7, g8, ds, g9, g10⟩⟩
  · exact ⟨g1, g2, g3, p, b, g4, g5, h _ _ _ _ g6, .inl ⟨g7, g8⟩⟩
  · exact ⟨g1, g2, g3, p, b, g4, g5, h _ _ _ _ g6, .inr ⟨g7, g8, ds, h _ _ _ _ g9, g10⟩⟩

theorem bClauses_mono (h : ∀ k i j t, R k i j t → R' k i j t) {i j : Nat} {t : Code} : bClauses ws R i j t → bClauses ws R' i j t := by
  rintro ⟨p, q, g1, g2, g3, g4, e, b, g5, g6, g7, ⟨g8, g9⟩ | ⟨g8, g9, bs, qs, g10, g11⟩⟩
  · exact ⟨p, q, g1, g2, g3, h _ _ _ _ g4, e, b, g5, g6, h _ _ _ _ g7, .inl ⟨g8, g9⟩⟩
  · exact ⟨p, q, g1, g2, g3, h _ _ _ _ g4, e, b, g5, g6, h _ _ _ _ g7, .inr ⟨g8, g9, bs, qs, h _ _ _ _ g10, g11⟩⟩

theorem bApp_mono (h : ∀ k i j t, R k i j t → R' k i j t) {i j : Nat} {t : Code} : bApp ws R i j t → bApp ws R' i j t := by
  unfold bApp
  intro hh
  split at hh
  · rename_i h0
    rw [if_pos h0]
    obtain ⟨a, g1, g2⟩ := hh
    exact ⟨a, h _ _ _ _ g1, g2⟩
  rename_i h0
  rw [if_neg h0]
  split at hh
  · rename_i h1
    rw [if_pos h1]
    rcases hh with ⟨p, a, b, g1, g2, g3, g4, g5⟩ | hh
    · exact .inl ⟨p, a, b, g1, g2, h _ _ _ _ g3, h _ _ _ _ g4, g5⟩
    · exact .inr (h _ _ _ _ hh)
  · rename_i h1
    rw [if_neg h1]
    rcases hh with ⟨p, a, b, g1, g2, g3, g4, g5⟩ | hh
    · exact .inl ⟨p, a, b, g1, g2, h _ _ _ _ g3, h _ _ _ _ g4, g5⟩
    · exact .inr (h _ _ _ _ hh)

theorem bAtom_mono (h : ∀ k i j t, R k i j t → R' k i j t) {i j : Nat} {t : Code} : bAtom ws R i j t → bAtom ws R' i j t := by
  unfold bAtom
  intro hh
  split at hh
  · rename_i h0; rw [if_pos h0]; exact hh
  · rename_i h0; rw [if_neg h0]; exact bRound_mono h hh

theorem bSimple_mono (h : ∀ k i j t, R k i j t → R' k i j t) {i j : Nat} {t : Code} : bSimple ws R i j t → bSimple ws R' i j t := by
  unfold bSimple
  intro hh
  split at hh
  · rename_i h0; rw [if_pos h0]; exact bRound_mono h hh
  · rename_i h0; rw [if_neg h0]; exact hh

theorem Bd_mono (h : ∀ k i j t, R k i j t → R' k i j t) {k i j : Nat} {t : Code} : Bd ws R k i j t → Bd ws R' k i j t := by
  rintro ⟨h0, hh⟩
  refine ⟨h0, ?_⟩
  match k, hh with
  | 0, hh => exact bExp_mono h hh
  | 1, hh => exact bInf_mono h hh
  | 2, hh => exact bInf_mono h hh
  | 3, hh => exact bInf_mono h hh
  | 4, hh => exact bInf_mono h hh
  | 5, hh => exact bApp_mono h hh
  | 6, hh => exact bAtom_mono h hh
  | 7, hh => exact bInf_mono h hh
  | 8, hh => exact bSimple_mono h hh
  | 9, hh => exact bClauses_mono h hh
  | 10, hh => exact bDefs_mono h hh
  | _ + 11, hh => exact hh
end

theorem der_succ (ws : List RW) : ∀ (n k i j : Nat) (t : Code), der ws n k i j t → der ws (n + 1) k i j t
  | 0, _, _, _, _, h => h.elim
  | n + 1, _, _, _, _, h => Bd_mono (der_succ ws n) h

theorem der_le (ws : List RW) {n m : Nat} (h : n ≤ m) {k i j : Nat} {t : Code} (hd : der ws n k i j t) : der ws m k i j t := by
  induction h with
  | refl => exact hd
  | step _ ih => exact der_succ ws _ _ _ _ _ ih

theorem Dv_in {ws : List RW} {k i j : Nat} {t : Code} (h : Dv ws k i j t) : Bd ws (Dv ws) k i j t := by
  obtain ⟨n, h⟩ := h
  cases n with
  | zero => exact h.elim
  | succ n => exact Bd_mono (fun k i j t h => ⟨n, h⟩) h

section
variable {ws : List RW}

theorem up {n m : Nat} (h : n ≤ m) {k i j : Nat} {t : Code} (hd : der ws n k i j t) : der ws m k i j t := der_le ws h hd

theorem bInf_out {i j l r a : Nat} {x y : List UInt8} {t : Code} : bInf ws (Dv ws) i j l r a x y t → ∃ n, bInf ws (der ws n) i j l r a x y t := by
  rintro (⟨n, h1⟩ | ⟨p, a, b, h1, h2, h3, ⟨n, h4⟩, ⟨m, h5⟩, h6⟩)
  · exact ⟨n, .inl h1⟩
  · exact ⟨n + m, .inr ⟨p, a, b, h1, h2, h3, up (by omega) h4, up (by omega) h5, h6⟩⟩

theorem bRound_out {i j k : Nat} {t : Code} : bRound ws (Dv ws) i j k t → ∃ n, bRound ws (der ws n) i j k t := by
  rintro ⟨h1, h2, ⟨n, h3⟩ | ⟨p, a, b, h3, h4, h5, ⟨n, h6⟩, ⟨m, h7⟩, h8⟩⟩
  · exact ⟨n, h1, h2, .inl h3⟩
  · exact ⟨n + m, h1, h2, .inr ⟨p, a, b, h3, h4, h5, up (by omega) h6, up (by omega) h7, h8⟩⟩

theorem bExp_out {i j : Nat} {t : Code} : bExp ws (Dv ws) i j t → ∃ n, bExp ws (der ws n) i j t := by
  unfold bExp
  intro hh
  split at hh
  · rename_i h0
    rcases hh with ⟨h1, p, ds, b, h2, h3, h4, ⟨n, h5⟩, ⟨m, h6⟩, h7⟩ | ⟨h1, h2, p, a, b, h3, h4, h5, ⟨n, h6⟩, ⟨m, h7⟩, h8⟩
    · refine ⟨n + m, ?_⟩
      rw [if_pos h0]
      exact .inl ⟨h1, p, ds, b, h2, h3, h4, up (by omega) h5, up (by omega) h6, h7⟩
    · refine ⟨n + m, ?_⟩
      rw [if_pos h0]
      exact .inr ⟨h1, h2, p, a, b, h3, h4, h5, up (by omega) h6, up (by omega) h7, h8⟩
  rename_i h0
  split at hh
  · rename_i h0'
    obtain ⟨h2, h3, b, ⟨n, h4⟩, h5⟩ := hh
    refine ⟨n, ?_⟩
    rw [if_neg h0, if_pos h0']
    exact ⟨h2, h3, b, h4, h5⟩
  rename_i h1
  split at hh
  · rename_i h0'
    obtain ⟨p, q, a, b, d, g1, g2, g3, ⟨n, g4⟩, g5, g6, g7, ⟨m, g8⟩, ⟨l, g9⟩, g10⟩ := hh
    refine ⟨n + m + l, ?_⟩
    rw [if_neg h0, if_neg h1, if_pos h0']
    exact ⟨p, q, a, b, d, g1, g2, g3, up (by omega) g4, g5, g6, g7, up (by omega) g8, up (by omega) g9, g10⟩
  rename_i h2
  split at hh
  · rename_i h0'
    obtain ⟨g0, p, a, bs, qs, g1, g2, g3, ⟨n, g4⟩, ⟨m, g5⟩, g6⟩ := hh
    refine ⟨n + m, ?_⟩
    rw [if_neg h0, if_neg h1, if_neg h2, if_pos h0']
    exact ⟨g0, p, a, bs, qs, g1, g2, g3, up (by omega) g4, up (by omega) g5, g6⟩
  rename_i h3
  split at hh
  · rename_i h0'
    obtain ⟨g0, p, a, b, g1, g2, g3, ⟨n, g4⟩, g5, g6, ⟨m, g7⟩, g8⟩ := hh
    refine ⟨n + m, ?_⟩
    rw [if_neg h0, if_neg h1, if_neg h2, if_neg h3, if_pos h0']
    exact ⟨g0, p, a, b, g1, g2, g3, up (by omega) g4, g5, g6, up (by omega) g7, g8⟩
  · rename_i h4
    obtain ⟨n, hh⟩ := hh
    refine ⟨n, ?_⟩
    rw [if_neg h0, if_neg h1, if_neg h2, if_neg h3, if_neg h4]
    exact hh

theorem bDefs_out {i j : Nat} {t : Code} : bDefs ws (Dv ws) i j t → ∃ n, bDefs ws (der ws n) i j t := by
  rintro ⟨g1, g2, g3, p, b, g4, g5, ⟨n, g6⟩, ⟨g7, g8⟩ | ⟨g7, g8, ds, ⟨m, g9⟩, g10⟩⟩
  · exact ⟨n, g1, g2, g3, p, b, g4, g5, g6, .inl ⟨g7, g8⟩⟩
  · exact ⟨n + m, g1, g2, g3, p, b, g4, g5, up (by omega) g6, .inr ⟨g7, g8, ds, up (by omega) g9, g10⟩⟩

theorem bClauses_out {i j : Nat} {t : Code} : bClauses ws (Dv ws) i j t → ∃ n, bClauses ws (der ws n) i j t := by
  rintro ⟨p, q, g1, g2, g3, ⟨n, g4⟩, e, b, g5, g6, ⟨m, g7⟩, ⟨g8, g9⟩ | ⟨g8, g9, bs, qs, ⟨l, g10⟩, g11⟩⟩
  · exact ⟨n + m, p, q, g1, g2, g3, up (by omega) g4, e, b, g5, g6, up (by omega) g7, .inl ⟨g8, g9⟩⟩
  · exact ⟨n + m + l, p, q, g1, g2, g3, up (by omega) g4, e, b, g5, g6, up (by omega) g7, .inr ⟨g8, g9, bs, qs, up (by omega) g10, g11⟩⟩

theorem bApp_out {i j : Nat} {t : Code} : bApp ws (Dv ws) i j t → ∃ n, bApp ws (der ws n) i j t := by
  unfold bApp
  intro hh
  split at hh
  · rename_i h0
    obtain ⟨a, ⟨n, g1⟩, g2⟩ := hh
    exact ⟨n, by rw [if_pos h0]; exact ⟨a, g1, g2⟩⟩
  rename_i h0
  split at hh
  · rename_i h1
    rcases hh with ⟨p, a, b, g1, g2, ⟨n, g3⟩, ⟨m, g4⟩, g5⟩ | ⟨n, hh⟩
    · exact ⟨n + m, by rw [if_neg h0, if_pos h1]; exact .inl ⟨p, a, b, g1, g2, up (by omega) g3, up (by omega) g4, g5⟩⟩
    · exact ⟨n, by rw [if_neg h0, if_pos h1]; exact .inr hh⟩
  · rename_i h1
    rcases hh with ⟨p, a, b, g1, g2, ⟨n, g3⟩, ⟨m, g4⟩, g5⟩ | ⟨n, hh⟩
    · exact ⟨n + m, by rw [if_neg h0, if_neg h1]; exact .inl ⟨p, a, b, g1, g2, up (by omega) g3, up (by omega) g4, g5⟩⟩
    · exact ⟨n, by rw [if_neg h0, if_neg h1]; exact .inr hh⟩

theorem bAtom_out {i j : Nat} {t : Code} : bAtom ws (Dv ws) i j t → ∃ n, bAtom ws (der ws n) i j t := by
  unfold bAtom
  intro hh
  split at hh
  · rename_i h0; exact ⟨0, by rw [if_pos h0]; exact hh⟩
  · rename_i h0
    obtain ⟨n, h⟩ := bRound_out hh
    exact ⟨n, by rw [if_neg h0]; exact h⟩

theorem bSimple_out {i j : Nat} {t : Code} : bSimple ws (Dv ws) i j t → ∃ n, bSimple ws (der ws n) i j t := by
  unfold bSimple
  intro hh
  split at hh
  · rename_i h0
    obtain ⟨n, h⟩ := bRound_out hh
    exact ⟨n, by rw [if_pos h0]; exact h⟩
  · rename_i h0; exact ⟨0, by rw [if_neg h0]; exact hh⟩

theorem Dv_out {k i j : Nat} {t : Code} : Bd ws (Dv ws) k i j t → Dv ws k i j t := by
  rintro ⟨h0, hh⟩
  have : ∃ n, Bd ws (der ws n) k i j t := by
    match k, hh with
    | 0, hh => obtain ⟨n, h⟩ := bExp_out hh; exact ⟨n, h0, h⟩
    | 1, hh => obtain ⟨n, h⟩ := bInf_out hh; exact ⟨n, h0, h⟩
    | 2, hh => obtain ⟨n, h⟩ := bInf_out hh; exact ⟨n, h0, h⟩
    | 3, hh => obtain ⟨n, h⟩ := bInf_out hh; exact ⟨n, h0, h⟩
    | 4, hh => obtain ⟨n, h⟩ := bInf_out hh; exact ⟨n, h0, h⟩
    | 5, hh => obtain ⟨n, h⟩ := bApp_out hh; exact ⟨n, h0, h⟩
    | 6, hh => obtain ⟨n, h⟩ := bAtom_out hh; exact ⟨n, h0, h⟩
    | 7, hh => obtain ⟨n, h⟩ := bInf_out hh; exact ⟨n, h0, h⟩
    | 8, hh => obtain ⟨n, h⟩ := bSimple_out hh; exact ⟨n, h0, h⟩
    | 9, hh => obtain ⟨n, h⟩ := bClauses_out hh; exact ⟨n, h0, h⟩
    | 10, hh => obtain ⟨n, h⟩ := bDefs_out hh; exact ⟨n, h0, h⟩
    | _ + 11, hh => exact hh.elim
  obtain ⟨n, h⟩ := this
  exact ⟨n + 1, h⟩

theorem Dv_iff {k i j : Nat} {t : Code} : Dv ws k i j t ↔ Bd ws (Dv ws) k i j t := ⟨Dv_in, Dv_out⟩

theorem Dv_lt {k i j : Nat} {t : Code} (h : Dv ws k i j t) : i < j := (Dv_in h).1
end

end Go.Proofs.YtnbhnjokpcdnnaaDoor

/- The reader: it ends; what it finds is so. -/
namespace Go.Proofs.YtnbhnjokpcdnnaaDoor

def kd (L : List (Int × Int)) (i : Nat) : Int := (L.getD i (0, 0)).1
def sz (s : RS) : Nat := s.exps.length + s.pats.length + s.bnds.length

theorem tok_inj : ∀ m, m < 33 → ∀ k, k < 33 → tokList[m]? = tokList[k]? → m = k := by decide +kernel
theorem tok_ne : ∀ x ∈ tokList, x ≠ [] := by decide +kernel

section
variable {names : List (List UInt8)} {L : List (Int × Int)} {ws : List RW}

theorem WsOk.at (h : WsOk names L ws) {i : Nat} (hi : i < L.length) : WOk names (L.getD i (0, 0)) (wAt ws i) := by
  have h2 : i < ws.length := h.1 ▸ hi
  refine h.2 i _ _ ?_ ?_
  · rw [List.getD_eq_getElem?_getD, List.getElem?_eq_getElem hi]; rfl
  · unfold wAt
    rw [List.getD_eq_getElem?_getD, List.getElem?_eq_getElem h2]; rfl

theorem kd_out {i : Nat} (h : ¬ i < L.length) : kd L i = 0 := by
  unfold kd
  rw [List.getD_eq_getElem?_getD, List.getElem?_eq_none (by omega)]
  rfl

theorem kd_in {i : Nat} (h : kd L i ≠ 0) : i < L.length := by
  by_cases h1 : i < L.length
  · exact h1
  · exact (h (kd_out h1)).elim

theorem kd_wd (hW : WsOk names L ws) {k : Nat} {x : List UInt8} (hk : tokList[k]? = some x) (i : Nat) : kd L i = 3 + (k : Int) ↔ wd ws i x = true := by
  have hx := List.mem_of_getElem? hk
  by_cases hi : i < L.length
  · have h2 : i < ws.length := hW.1 ▸ hi
    unfold wd
    rw [decide_eq_true h2, Bool.true_and, Bool.and_eq_true, beq_iff_eq, Bool.not_eq_true']
    rcases hW.at hi with ⟨h1, -, h3, _⟩ | ⟨h1, h3, h4⟩ | ⟨h1, m, h3, h4⟩
    · constructor
      · intro h
        unfold kd at h
        omega
      · rintro ⟨_, h⟩
        rw [h1] at h
        cases h
    · constructor
      · intro h
        unfold kd at h
        rw [h4] at h
        simp at h
        omega
      · rintro ⟨h, _⟩
        rw [h3] at h
        exact (tok_ne x hx h.symm).elim
    · constructor
      · intro h
        unfold kd at h
        rw [h4] at h
        simp at h
        have : m = k := by omega
        subst this
        rw [hk] at h3
        injection h3 with h3
        exact ⟨h3.symm, h1⟩
      · rintro ⟨h, _⟩
        rw [h] at h3
        have hm := List.getElem?_eq_some_iff.1 h3
        have hk' := List.getElem?_eq_some_iff.1 hk
        have : m = k := tok_inj m hm.1 k hk'.1 (h3.trans hk.symm)
        subst this
        unfold kd
        rw [h4]
  · rw [kd_out hi]
    constructor
    · intro h; omega
    · intro h
      unfold wd at h
      rw [decide_eq_false (by rw [← hW.1]; exact hi)] at h
      cases h

theorem kd_nm (hW : WsOk names L ws) (i : Nat) : kd L i = 2 ↔ isNm ws i = true := by
  by_cases hi : i < L.length
  · have h2 : i < ws.length := hW.1 ▸ hi
    unfold isNm
    rw [decide_eq_true h2, Bool.true_and]
    rcases hW.at hi with ⟨h1, -, h3, _⟩ | ⟨h1, h3, h4⟩ | ⟨h1, m, h3, h4⟩
    · exact ⟨fun _ => h1, fun _ => h3⟩
    · constructor
      · intro h; unfold kd at h; rw [h4] at h; simp at h
      · intro h; rw [h1] at h; cases h
    · constructor
      · intro h; unfold kd at h; rw [h4] at h; simp at h; omega
      · intro h; rw [h1] at h; cases h
  · rw [kd_out hi]
    constructor
    · intro h; omega
    · intro h
      unfold isNm at h
      rw [decide_eq_false (by rw [← hW.1]; exact hi)] at h
      cases h

theorem kd_num (hW : WsOk names L ws) {i : Nat} (h : kd L i = 1) : (wAt ws i).isName = false ∧ tx ws i = [] := by
  have hi : i < L.length := kd_in (by omega)
  unfold kd at h
  rcases hW.at hi with ⟨h1, -, h3, _⟩ | ⟨h1, h3, h4⟩ | ⟨h1, m, h3, h4⟩
  · omega
  · exact ⟨h1, h3⟩
  · rw [h4] at h; simp at h; omega
end

section
variable (L : List (Int × Int))

theorem want_q (k : Int) (hk : k ≠ 0) (s : RS) (hp : s.pos ≤ L.length) : ∃ s1, rWant L k s = s1 ∧ s1.exps = s.exps ∧ s1.pats = s.pats ∧ s1.bnds = s.bnds ∧ s.pos ≤ s1.pos ∧ s1.pos ≤ L.length ∧ (s1.bad = false → s.bad = false ∧ kd L s.pos = k ∧ s1.pos = s.pos + 1) ∧ (kd L s.pos = k → s1.pos = s.pos + 1 ∧ s1.bad = s.bad) := by
  by_cases h : (rPeek L s).1 = k
  · have hk2 : kd L s.pos = k := h
    have hlt : s.pos < L.length := kd_in (by omega)
    have e : rWant L k s = { s with pos := s.pos + 1 } := by
      unfold rWant rTake
      rw [if_pos h]
      simp [rStep, hlt]
    exact ⟨_, e, rfl, rfl, rfl, Nat.le_succ _, hlt, fun h => ⟨h, hk2, rfl⟩, fun _ => ⟨rfl, rfl⟩⟩
  · have e : rWant L k s = { s with bad := true, pos := L.length } := by
      unfold rWant rTake
      rw [if_neg h]
      rfl
    exact ⟨_, e, rfl, rfl, rfl, hp, Nat.le_refl _, (fun h => nomatch h), fun h' => (h h').elim⟩

theorem take_q (k : Int) (hk : k ≠ 0) (s : RS) : (kd L s.pos = k ∧ s.pos < L.length ∧ rTake L k s = ({ s with pos := s.pos + 1 }, true)) ∨ (kd L s.pos ≠ k ∧ rTake L k s = (s, false)) := by
  unfold rTake
  by_cases h : (rPeek L s).1 = k
  · rw [if_pos h]
    have hk2 : kd L s.pos = k := h
    have hlt : s.pos < L.length := kd_in (by omega)
    exact .inl ⟨h, hlt, by simp [rStep, hlt]⟩
  · rw [if_neg h]
    exact .inr ⟨h, rfl⟩

theorem bnd_q (s : RS) (hp : s.pos ≤ L.length) (hb : sz s ≤ 100000) : ∃ s1 v, bnd L s = some (s1, v) ∧ v = (s.bnds.length : Nat) ∧ s1.exps = s.exps ∧ s1.pats = s.pats ∧ s1.bnds = s.bnds ++ [(L.getD s.pos (0, 0)).2] ∧ sz s1 = sz s + 1 ∧ s.pos ≤ s1.pos ∧ s1.pos ≤ L.length ∧ (s1.bad = false → s.bad = false ∧ kd L s.pos = 2 ∧ s1.pos = s.pos + 1) ∧ (kd L s.pos = 2 → s1.pos = s.pos + 1 ∧ s1.bad = s.bad) := by
  obtain ⟨s1, e, h1, h2, h3, h4, h5, h6, h7⟩ := want_q L 2 (by decide) s hp
  have e2 : bnd L s = some ({ s1 with bnds := s1.bnds ++ [(rPeek L s).2] }, (s1.bnds.length : Int)) := by
    unfold bnd rBinder
    rw [if_pos (by unfold sz at hb; omega), e]
  refine ⟨_, _, e2, by rw [h3], h1, h2, by simp [h3, rPeek], ?_, h4, h5, h6, h7⟩
  unfold sz
  simp [h1, h2, h3]
  omega

theorem add_q (x : EX) (s : RS) (hb : sz s ≤ 100000) : add x s = some ({ s with exps := s.exps ++ [x] }, (s.exps.length : Int)) := by
  unfold add rExp
  rw [if_pos (by unfold sz at hb; omega)]
theorem addP_q (x : PT) (s : RS) (hb : sz s ≤ 100000) : addP x s = some ({ s with pats := s.pats ++ [x] }, (s.pats.length : Int)) := by
  unfold addP rPat
  rw [if_pos (by unfold sz at hb; omega)]
theorem sz_e (x : EX) (s : RS) : sz { s with exps := s.exps ++ [x] } = sz s + 1 := by unfold sz; simp; omega
theorem sz_p (x : PT) (s : RS) : sz { s with pats := s.pats ++ [x] } = sz s + 1 := by unfold sz; simp; omega
end

/-- What a stretch read by that function is. -/
def G (ws : List RW) (tag i j : Nat) : Prop :=
  match tag with
  | 6 => ∃ t, Dv ws 1 i j t
  | 7 => ∃ p ds b, i < p ∧ p < j ∧ wd ws p [105, 110] = true ∧ Dv ws 10 i p (nd [100, 101, 102, 115] 0 [] [] ds []) ∧ Dv ws 0 (p + 1) j b
  | 8 => ∃ t, Dv ws 2 i j t
  | 9 => ∃ t, Dv ws 3 i j t
  | 10 => ∃ t, Dv ws 4 i j t
  | 11 => ∃ t, Dv ws 5 i j t
  | 12 => ∃ t, Dv ws 5 i j t
  | 13 => ∃ t, Dv ws 5 i j t
  | 14 => ∃ t, Dv ws 6 i j t
  | 15 => ∃ t, Dv ws 6 i j t
  | 16 => ∃ t, Dv ws 7 i j t
  | 17 => ∃ t, Dv ws 8 i j t
  | 18 => ∃ t, Dv ws 8 i j t
  | _ => ∃ t, Dv ws 0 i j t

def lvl (tag : Nat) : Nat := if tag = 0 then 9 else if tag < 7 then 8 else if tag = 7 then 10 else if tag = 8 then 7 else if tag = 9 then 6 else if tag = 10 then 5 else if tag = 11 then 4 else if tag < 14 then 3 else if tag = 14 then 2 else if tag = 15 then 1 else 20 - tag
def sl (tag : Nat) : Nat := if tag = 7 then 5 else 1
def pl (tag : Nat) : Nat := if tag = 7 then 14 else if tag = 14 ∨ tag = 15 then 9 else 10

def kwP (tag : Nat) (k : Int) : Prop :=
  match tag with
  | 1 => k = 3
  | 2 => k = 7
  | 3 => k = 8
  | 4 => k = 11
  | 5 => k = 14
  | 6 => k ≠ 3 ∧ k ≠ 7 ∧ k ≠ 8 ∧ k ≠ 11 ∧ k ≠ 14
  | 12 => k = 17
  | 13 => k ≠ 17 ∧ preK k = 0
  | 15 => k = 32
  | 18 => k = 32
  | _ => True

/-- What is asked of a call. -/
def Pre (L : List (Int × Int)) (n tag : Nat) (s : RS) : Prop := s.pos ≤ L.length ∧ sz s + 3 * (L.length - s.pos) + pl tag ≤ 100000 ∧ 12 * (L.length - s.pos) + lvl tag + 1 ≤ n ∧ kwP tag (kd L s.pos)

/-- What it answers. -/
def Q (L : List (Int × Int)) (ws : List RW) (tag : Nat) (s : RS) (r : Option (RS × Int)) : Prop :=
  ∃ s' x, r = some (s', x) ∧ s.pos ≤ s'.pos ∧ s'.pos ≤ L.length ∧ sz s' + 3 * s.pos ≤ sz s + 3 * s'.pos + sl tag ∧ ((tag = 14 ∨ tag = 15) → begA (kd L s.pos) = true → s.pos < s'.pos ∧ sz s' + 3 * s.pos + 1 ≤ sz s + 3 * s'.pos) ∧ (s'.bad = false → s.bad = false ∧ G ws tag s.pos s'.pos)

def IhP (L : List (Int × Int)) (ws : List RW) (n : Nat) : Prop := ∀ tag s, tag < 19 → Pre L n tag s → Q L ws tag s (rdr L n tag s)

end Go.Proofs.YtnbhnjokpcdnnaaDoor

namespace Go.Proofs.YtnbhnjokpcdnnaaDoor

theorem lv : (lvl 0 = 9 ∧ lvl 1 = 8 ∧ lvl 2 = 8 ∧ lvl 3 = 8 ∧ lvl 4 = 8 ∧ lvl 5 = 8 ∧ lvl 6 = 8 ∧ lvl 7 = 10 ∧ lvl 8 = 7 ∧ lvl 9 = 6 ∧ lvl 10 = 5 ∧ lvl 11 = 4 ∧ lvl 12 = 3 ∧ lvl 13 = 3 ∧ lvl 14 = 2 ∧ lvl 15 = 1 ∧ lvl 16 = 4 ∧ lvl 17 = 3 ∧ lvl 18 = 2) := by decide
theorem slv : (sl 0 = 1 ∧ sl 1 = 1 ∧ sl 2 = 1 ∧ sl 3 = 1 ∧ sl 4 = 1 ∧ sl 5 = 1 ∧ sl 6 = 1 ∧ sl 7 = 5 ∧ sl 8 = 1 ∧ sl 9 = 1 ∧ sl 10 = 1 ∧ sl 11 = 1 ∧ sl 12 = 1 ∧ sl 13 = 1 ∧ sl 14 = 1 ∧ sl 15 = 1 ∧ sl 16 = 1 ∧ sl 17 = 1 ∧ sl 18 = 1) := by decide
theorem plv : (pl 0 = 10 ∧ pl 1 = 10 ∧ pl 2 = 10 ∧ pl 3 = 10 ∧ pl 4 = 10 ∧ pl 5 = 10 ∧ pl 6 = 10 ∧ pl 7 = 14 ∧ pl 8 = 10 ∧ pl 9 = 10 ∧ pl 10 = 10 ∧ pl 11 = 10 ∧ pl 12 = 10 ∧ pl 13 = 10 ∧ pl 14 = 9 ∧ pl 15 = 9 ∧ pl 16 = 10 ∧ pl 17 = 10 ∧ pl 18 = 10) := by decide

theorem nb {tag : Nat} {P : Prop} (h : tag ≠ 14 ∧ tag ≠ 15) : (tag = 14 ∨ tag = 15) → P := fun h1 => by rcases h1 with h1 | h1 <;> omega

section
variable {names : List (List UInt8)} {L : List (Int × Int)} {ws : List RW} {n : Nat} {s : RS}

theorem kw (hW : WsOk names L ws) {k : Nat} {x : List UInt8} (hk : tokList[k]? = some x) {c : Int} (hc : c = 3 + (k : Int)) {i : Nat} : kd L i = c ↔ wd ws i x = true := hc ▸ kd_wd hW hk i

theorem wq (L : List (Int × Int)) (k : Int) (hk : k ≠ 0) (s : RS) (hp : s.pos ≤ L.length) : ∃ s1, rWant L k s = s1 ∧ sz s1 = sz s ∧ s.pos ≤ s1.pos ∧ s1.pos ≤ L.length ∧ (s1.bad = false → s.bad = false ∧ kd L s.pos = k ∧ s1.pos = s.pos + 1) ∧ (kd L s.pos = k → s1.pos = s.pos + 1) := by
  obtain ⟨s1, e, h1, h2, h3, h4, h5, h6, h7⟩ := want_q L k hk s hp
  exact ⟨s1, e, by unfold sz; rw [h1, h2, h3], h4, h5, h6, fun h => (h7 h).1⟩

theorem bq (L : List (Int × Int)) (s : RS) (hp : s.pos ≤ L.length) (hb : sz s ≤ 100000) : ∃ s1 v, bnd L s = some (s1, v) ∧ sz s1 = sz s + 1 ∧ s.pos ≤ s1.pos ∧ s1.pos ≤ L.length ∧ (s1.bad = false → s.bad = false ∧ kd L s.pos = 2 ∧ s1.pos = s.pos + 1) ∧ (kd L s.pos = 2 → s1.pos = s.pos + 1) := by
  obtain ⟨s1, v, e, _, _, _, _, h1, h2, h3, h4, h5⟩ := bnd_q L s hp hb
  exact ⟨s1, v, e, h1, h2, h3, h4, fun h => (h5 h).1⟩

/-- A call of the reader's own. -/
theorem IhP.go (IH : IhP L ws n) (tag : Nat) (s : RS) (h0 : tag < 19) (h1 : s.pos ≤ L.length) (h2 : sz s + 3 * (L.length - s.pos) + pl tag ≤ 100000) (h3 : 12 * (L.length - s.pos) + lvl tag + 1 ≤ n) (h4 : kwP tag (kd L s.pos)) :
    ∃ s' x, rdr L n tag s = some (s', x) ∧ s.pos ≤ s'.pos ∧ s'.pos ≤ L.length ∧ sz s' + 3 * s.pos ≤ sz s + 3 * s'.pos + sl tag ∧ ((tag = 14 ∨ tag = 15) → begA (kd L s.pos) = true → s.pos < s'.pos ∧ sz s' + 3 * s.pos + 1 ≤ sz s + 3 * s'.pos) ∧ (s'.bad = false → s.bad = false ∧ G ws tag s.pos s'.pos) := IH tag s h0 ⟨h1, h2, h3, h4⟩

theorem q_exp (hW : WsOk names L ws) (IH : IhP L ws n) (h : Pre L (n + 1) 0 s) : Q L ws 0 s (rdr L (n + 1) 0 s) := by
  have LV := lv
  have SV := slv
  have PV := plv
  obtain ⟨p0, p1, p2, -⟩ := h
  show Q L ws 0 s (tExp L (rdr L n) s)
  unfold tExp
  have hk : (rPeek L s).1 = kd L s.pos := rfl
  rw [hk]
  have key : ∀ tag, 0 < tag → tag < 7 → kwP tag (kd L s.pos) → (G ws tag s.pos = G ws 0 s.pos ∨ tag = 6) → Q L ws 0 s (rdr L n tag s) := by
    intro tag t1 t2 hkw hG
    have hl : lvl tag = 8 := by unfold lvl; rw [if_neg (by omega), if_pos t2]
    have hs : sl tag = 1 := by unfold sl; rw [if_neg (by omega)]
    have hp : pl tag = 10 := by unfold pl; rw [if_neg (by omega), if_neg (by omega)]
    obtain ⟨s', x, e, q1, q2, q3, -, q4⟩ := IH.go tag s (by omega) p0 (by omega) (by omega) hkw
    refine ⟨s', x, e, q1, q2, by omega, nb (by omega), fun hb => ⟨(q4 hb).1, ?_⟩⟩
    rcases hG with hG | rfl
    · have := (q4 hb).2
      rwa [hG] at this
    · obtain ⟨t, ht⟩ := (q4 hb).2
      obtain ⟨k1, k2, k3, k4, k5⟩ := hkw
      refine ⟨t, Dv_out ⟨Dv_lt ht, ?_⟩⟩
      show bExp ws (Dv ws) _ _ _
      unfold bExp
      rw [if_neg (fun h => k1 ((kw hW (k := 0) rfl rfl).2 h)), if_neg (fun h => k2 ((kw hW (k := 4) rfl rfl).2 h)), if_neg (fun h => k3 ((kw hW (k := 5) rfl rfl).2 h)), if_neg (fun h => k4 ((kw hW (k := 8) rfl rfl).2 h)), if_neg (fun h => k5 ((kw hW (k := 11) rfl rfl).2 h))]
      exact ht
  split
  · exact key 1 (by omega) (by omega) (by assumption) (.inl rfl)
  split
  · exact key 2 (by omega) (by omega) (by assumption) (.inl rfl)
  split
  · exact key 3 (by omega) (by omega) (by assumption) (.inl rfl)
  split
  · exact key 4 (by omega) (by omega) (by assumption) (.inl rfl)
  split
  · exact key 5 (by omega) (by omega) (by assumption) (.inl rfl)
  · exact key 6 (by omega) (by omega) ⟨by assumption, by assumption, by assumption, by assumption, by assumption⟩ (.inr rfl)

theorem bExp_of {R : Nat → Nat → Nat → Code → Prop} {i j : Nat} {t : Code} (k : Nat) : (k = 0 → wd ws i [108, 101, 116] = true → bLet ws R i j t → bExp ws R i j t) := by
  intro _ h h1
  unfold bExp
  rw [if_pos h]
  exact h1

theorem wd_only {i : Nat} {x y : List UInt8} (h : wd ws i x = true) (hxy : x ≠ y) : ¬ wd ws i y = true := by
  intro h2
  simp only [wd, Bool.and_eq_true, beq_iff_eq] at h h2
  exact hxy (h.1.2.symm.trans h2.1.2)

theorem dv_let {i j : Nat} {t : Code} (h0 : i < j) (h : wd ws i [108, 101, 116] = true) (h1 : bLet ws (Dv ws) i j t) : Dv ws 0 i j t := by
  refine Dv_out ⟨h0, ?_⟩
  show bExp ws _ i j t
  unfold bExp
  rw [if_pos h]
  exact h1
theorem dv_fn {i j : Nat} {t : Code} (h0 : i < j) (h : wd ws i [102, 110] = true) (h1 : bFn ws (Dv ws) i j t) : Dv ws 0 i j t := by
  refine Dv_out ⟨h0, ?_⟩
  show bExp ws _ i j t
  unfold bExp
  rw [if_neg (wd_only h (by decide)), if_pos h]
  exact h1
theorem dv_if {i j : Nat} {t : Code} (h0 : i < j) (h : wd ws i [105, 102] = true) (h1 : bIf ws (Dv ws) i j t) : Dv ws 0 i j t := by
  refine Dv_out ⟨h0, ?_⟩
  show bExp ws _ i j t
  unfold bExp
  rw [if_neg (wd_only h (by decide)), if_neg (wd_only h (by decide)), if_pos h]
  exact h1
theorem dv_match {i j : Nat} {t : Code} (h0 : i < j) (h : wd ws i [109, 97, 116, 99, 104] = true) (h1 : bMatch ws (Dv ws) i j t) : Dv ws 0 i j t := by
  refine Dv_out ⟨h0, ?_⟩
  show bExp ws _ i j t
  unfold bExp
  rw [if_neg (wd_only h (by decide)), if_neg (wd_only h (by decide)), if_neg (wd_only h (by decide)), if_pos h]
  exact h1
theorem dv_try {i j : Nat} {t : Code} (h0 : i < j) (h : wd ws i [116, 114, 121] = true) (h1 : bTry ws (Dv ws) i j t) : Dv ws 0 i j t := by
  refine Dv_out ⟨h0, ?_⟩
  show bExp ws _ i j t
  unfold bExp
  rw [if_neg (wd_only h (by decide)), if_neg (wd_only h (by decide)), if_neg (wd_only h (by decide)), if_neg (wd_only h (by decide)), if_pos h]
  exact h1

theorem q_let (hW : WsOk names L ws) (IH : IhP L ws n) (h : Pre L (n + 1) 1 s) : Q L ws 1 s (rdr L (n + 1) 1 s) := by
  have LV := lv
  have SV := slv
  have PV := plv
  obtain ⟨p0, p1, p2, hk⟩ := h
  replace hk : kd L s.pos = 3 := hk
  have hlt : s.pos < L.length := kd_in (by omega)
  show Q L ws 1 s (tLet L (rdr L n) s)
  unfold tLet
  obtain ⟨s1, e1, z1, a1, b1, c1, d1⟩ := wq L 3 (by decide) s p0
  have d1' := d1 hk
  rw [e1]
  rcases take_q L 4 (by decide) s1 with ⟨k4, l4, e4⟩ | ⟨k4, e4⟩
  · rw [e4]
    simp only [if_true]
    have z2 : sz { s1 with pos := s1.pos + 1 } = sz s1 := rfl
    obtain ⟨s', x, e, q1, q2, q3, -, q4⟩ := IH.go 7 { s1 with pos := s1.pos + 1 } (by decide) l4 (by simp only [z2]; omega) (by simp only []; omega) trivial
    simp only [z2] at q1 q3
    refine ⟨s', x, e, by omega, q2, by omega, nb (by decide), fun hb => ?_⟩
    obtain ⟨g1, p, ds, b, g2, g3, g4, g5, g6⟩ := q4 hb
    have hb1 := c1 g1
    refine ⟨hb1.1, _, dv_let (by omega) ((kw hW (k := 0) rfl rfl).1 hk) (.inl ⟨?_, p, ds, b, ?_, g3, g4, ?_, g6, rfl⟩)⟩
    · rw [← d1']; exact (kw hW (k := 1) rfl rfl).1 k4
    · simp only [] at g2; omega
    · simp only [d1'] at g5; exact g5
  · rw [e4]
    simp only [Bool.false_eq_true, if_false]
    obtain ⟨s2, v2, e2, z2, a2, b2, c2, -⟩ := bq L s1 b1 (by omega)
    rw [e2]
    simp only [Option.bind_some]
    obtain ⟨s3, e3, z3, a3, b3, c3, -⟩ := wq L 26 (by decide) s2 b2
    rw [e3]
    obtain ⟨s4, x4, e4, q1, q2, q3, -, q4⟩ := IH.go 0 s3 (by decide) b3 (by omega) (by omega) trivial
    rw [e4]
    simp only [Option.bind_some]
    obtain ⟨s5, e5, z5, a5, b5, c5, -⟩ := wq L 6 (by decide) s4 q2
    rw [e5]
    obtain ⟨s6, x6, e6, r1, r2, r3, -, r4⟩ := IH.go 0 s5 (by decide) b5 (by omega) (by omega) trivial
    rw [e6]
    simp only [Option.bind_some]
    rw [add_q _ _ (by omega)]
    refine ⟨_, _, rfl, ?_, r2, ?_, nb (by decide), fun hb => ?_⟩
    · show s.pos ≤ s6.pos; omega
    · rw [sz_e]; show _ ≤ sz s + 3 * s6.pos + sl 1; omega
    · obtain ⟨y1, t6, y2⟩ := r4 hb
      obtain ⟨y3, y4, y5⟩ := c5 y1
      obtain ⟨y6, t4, y7⟩ := q4 y3
      obtain ⟨y8, y9, y10⟩ := c3 y6
      obtain ⟨y11, y12, y13⟩ := c2 y8
      have y14 := c1 y11
      have := Dv_lt y2
      have := Dv_lt y7
      refine ⟨y14.1, _, dv_let ?_ ((kw hW (k := 0) rfl rfl).1 hk) (.inr ⟨?_, ?_, s4.pos, t4, t6, ?_, ?_, ?_, ?_, ?_, rfl⟩)⟩
      · show s.pos < s6.pos; omega
      · rw [← d1']; exact (kd_nm hW _).1 y12
      · rw [show s.pos + 2 = s2.pos by omega]; exact (kw hW (k := 23) rfl rfl).1 y9
      · omega
      · show s4.pos < s6.pos; omega
      · exact (kw hW (k := 3) rfl rfl).1 y4
      · rw [show s.pos + 3 = s3.pos by omega]; exact y7
      · rw [show s4.pos + 1 = s5.pos by omega]; exact y2

theorem q_fn (hW : WsOk names L ws) (IH : IhP L ws n) (h : Pre L (n + 1) 2 s) : Q L ws 2 s (rdr L (n + 1) 2 s) := by
  have LV := lv
  have SV := slv
  have PV := plv
  obtain ⟨p0, p1, p2, hk⟩ := h
  replace hk : kd L s.pos = 7 := hk
  have hlt : s.pos < L.length := kd_in (by omega)
  show Q L ws 2 s (tFn L (rdr L n) s)
  unfold tFn
  obtain ⟨s1, e1, z1, a1, b1, c1, d1⟩ := wq L 7 (by decide) s p0
  have d1' := d1 hk
  rw [e1]
  obtain ⟨s2, v2, e2, z2, a2, b2, c2, -⟩ := bq L s1 b1 (by omega)
  rw [e2]
  simp only [Option.bind_some]
  obtain ⟨s3, e3, z3, a3, b3, c3, -⟩ := wq L 23 (by decide) s2 b2
  rw [e3]
  obtain ⟨s4, x4, e4, q1, q2, q3, -, q4⟩ := IH.go 0 s3 (by decide) b3 (by omega) (by omega) trivial
  rw [e4]
  simp only [Option.bind_some]
  rw [add_q _ _ (by omega)]
  refine ⟨_, _, rfl, ?_, q2, ?_, nb (by decide), fun hb => ?_⟩
  · show s.pos ≤ s4.pos; omega
  · rw [sz_e]; show _ ≤ sz s + 3 * s4.pos + sl 2; omega
  · obtain ⟨y6, t4, y7⟩ := q4 hb
    obtain ⟨y8, y9, y10⟩ := c3 y6
    obtain ⟨y11, y12, y13⟩ := c2 y8
    have y14 := c1 y11
    have := Dv_lt y7
    refine ⟨y14.1, _, dv_fn ?_ ((kw hW (k := 4) rfl rfl).1 hk) ⟨?_, ?_, t4, ?_, rfl⟩⟩
    · show s.pos < s4.pos; omega
    · rw [← d1']; exact (kd_nm hW _).1 y12
    · rw [show s.pos + 2 = s2.pos by omega]; exact (kw hW (k := 20) rfl rfl).1 y9
    · rw [show s.pos + 3 = s3.pos by omega]; exact y7

theorem q_if (hW : WsOk names L ws) (IH : IhP L ws n) (h : Pre L (n + 1) 3 s) : Q L ws 3 s (rdr L (n + 1) 3 s) := by
  have LV := lv
  have SV := slv
  have PV := plv
  obtain ⟨p0, p1, p2, hk⟩ := h
  replace hk : kd L s.pos = 8 := hk
  have hlt : s.pos < L.length := kd_in (by omega)
  show Q L ws 3 s (tIf L (rdr L n) s)
  unfold tIf
  obtain ⟨s1, e1, z1, a1, b1, c1, d1⟩ := wq L 8 (by decide) s p0
  have d1' := d1 hk
  rw [e1]
  obtain ⟨s2, x2, e2, q1, q2, q3, -, q4⟩ := IH.go 0 s1 (by decide) b1 (by omega) (by omega) trivial
  rw [e2]
  simp only [Option.bind_some]
  obtain ⟨s3, e3, z3, a3, b3, c3, -⟩ := wq L 9 (by decide) s2 q2
  rw [e3]
  obtain ⟨s4, x4, e4, r1, r2, r3, -, r4⟩ := IH.go 0 s3 (by decide) b3 (by omega) (by omega) trivial
  rw [e4]
  simp only [Option.bind_some]
  obtain ⟨s5, e5, z5, a5, b5, c5, -⟩ := wq L 10 (by decide) s4 r2
  rw [e5]
  obtain ⟨s6, x6, e6, u1, u2, u3, -, u4⟩ := IH.go 0 s5 (by decide) b5 (by omega) (by omega) trivial
  rw [e6]
  simp only [Option.bind_some]
  rw [add_q _ _ (by omega)]
  refine ⟨_, _, rfl, ?_, u2, ?_, nb (by decide), fun hb => ?_⟩
  · show s.pos ≤ s6.pos; omega
  · rw [sz_e]; show _ ≤ sz s + 3 * s6.pos + sl 3; omega
  · obtain ⟨y1, t6, y2⟩ := u4 hb
    obtain ⟨y3, y4, y5⟩ := c5 y1
    obtain ⟨y6, t4, y7⟩ := r4 y3
    obtain ⟨y8, y9, y10⟩ := c3 y6
    obtain ⟨y11, t2, y12⟩ := q4 y8
    have y14 := c1 y11
    have := Dv_lt y2
    have := Dv_lt y7
    have := Dv_lt y12
    refine ⟨y14.1, _, dv_if ?_ ((kw hW (k := 5) rfl rfl).1 hk) ⟨s2.pos, s4.pos, t2, t4, t6, ?_, ?_, (kw hW (k := 6) rfl rfl).1 y9, ?_, ?_, ?_, (kw hW (k := 7) rfl rfl).1 y4, ?_, ?_, rfl⟩⟩
    · show s.pos < s6.pos; omega
    · omega
    · show s2.pos < s6.pos; omega
    · rw [← d1']; exact y12
    · omega
    · show s4.pos < s6.pos; omega
    · rw [← y10]; exact y7
    · rw [← y5]; exact y2

theorem q_try (hW : WsOk names L ws) (IH : IhP L ws n) (h : Pre L (n + 1) 5 s) : Q L ws 5 s (rdr L (n + 1) 5 s) := by
  have LV := lv
  have SV := slv
  have PV := plv
  obtain ⟨p0, p1, p2, hk⟩ := h
  replace hk : kd L s.pos = 14 := hk
  have hlt : s.pos < L.length := kd_in (by omega)
  show Q L ws 5 s (tTry L (rdr L n) s)
  unfold tTry
  obtain ⟨s1, e1, z1, a1, b1, c1, d1⟩ := wq L 14 (by decide) s p0
  have d1' := d1 hk
  rw [e1]
  obtain ⟨s2, x2, e2, q1, q2, q3, -, q4⟩ := IH.go 0 s1 (by decide) b1 (by omega) (by omega) trivial
  rw [e2]
  simp only [Option.bind_some]
  obtain ⟨s3, e3, z3, a3, b3, c3, -⟩ := wq L 12 (by decide) s2 q2
  rw [e3]
  obtain ⟨s4, x4, e4, z4, a4, b4, c4, -⟩ := bq L s3 b3 (by omega)
  rw [e4]
  simp only [Option.bind_some]
  obtain ⟨s5, e5, z5, a5, b5, c5, -⟩ := wq L 23 (by decide) s4 b4
  rw [e5]
  obtain ⟨s6, x6, e6, u1, u2, u3, -, u4⟩ := IH.go 0 s5 (by decide) b5 (by omega) (by omega) trivial
  rw [e6]
  simp only [Option.bind_some]
  obtain ⟨s7, e7, z7, a7, b7, c7, -⟩ := wq L 13 (by decide) s6 u2
  rw [e7, add_q _ _ (by omega)]
  refine ⟨_, _, rfl, ?_, b7, ?_, nb (by decide), fun hb => ?_⟩
  · show s.pos ≤ s7.pos; omega
  · rw [sz_e]; show _ ≤ sz s + 3 * s7.pos + sl 5; omega
  · obtain ⟨x1, x2, x3⟩ := c7 hb
    obtain ⟨y1, t6, y2⟩ := u4 x1
    obtain ⟨y3, y4, y5⟩ := c5 y1
    obtain ⟨y6, y7, y7'⟩ := c4 y3
    obtain ⟨y8, y9, y10⟩ := c3 y6
    obtain ⟨y11, t2, y12⟩ := q4 y8
    have y14 := c1 y11
    have := Dv_lt y2
    have := Dv_lt y12
    refine ⟨y14.1, _, dv_try ?_ ((kw hW (k := 11) rfl rfl).1 hk) ⟨?_, s2.pos, t2, t6, ?_, ?_, (kw hW (k := 9) rfl rfl).1 y9, ?_, ?_, ?_, ?_, rfl⟩⟩
    · show s.pos < s7.pos; omega
    · show wd ws (s7.pos - 1) _ = true
      rw [show s7.pos - 1 = s6.pos by omega]; exact (kw hW (k := 10) rfl rfl).1 x2
    · omega
    · show s2.pos < s7.pos; omega
    · rw [← d1']; exact y12
    · rw [← y10]; exact (kd_nm hW _).1 y7
    · rw [show s2.pos + 2 = s4.pos by omega]; exact (kw hW (k := 20) rfl rfl).1 y4
    · show Dv ws 0 (s2.pos + 3) (s7.pos - 1) t6
      rw [show s2.pos + 3 = s5.pos by omega, show s7.pos - 1 = s6.pos by omega]; exact y2
end
end Go.Proofs.YtnbhnjokpcdnnaaDoor

namespace Go.Proofs.YtnbhnjokpcdnnaaDoor
section
variable {names : List (List UInt8)} {L : List (Int × Int)} {ws : List RW} {n : Nat} {s : RS}

theorem step_q (L : List (Int × Int)) (s : RS) (h : s.pos < L.length) : rStep L s = { s with pos := s.pos + 1 } := by unfold rStep; rw [if_pos h]
theorem sz_at (s : RS) (p : Nat) : sz { s with pos := p } = sz s := rfl

theorem cmpK_ne {k : Int} (h : ¬ cmpK k = 0) : k = 26 ∨ k = 27 := by
  unfold cmpK at h
  split at h
  · exact .inl (by assumption)
  split at h
  · exact .inr (by assumption)
  · exact (h rfl).elim
theorem addK_ne {k : Int} (h : ¬ addK k = 0) : k = 28 ∨ k = 29 := by
  unfold addK at h
  split at h
  · exact .inl (by assumption)
  split at h
  · exact .inr (by assumption)
  · exact (h rfl).elim
theorem mulK_ne {k : Int} (h : ¬ mulK k = 0) : k = 30 ∨ k = 31 := by
  unfold mulK at h
  split at h
  · exact .inl (by assumption)
  split at h
  · exact .inr (by assumption)
  · exact (h rfl).elim

theorem q_cmp (hW : WsOk names L ws) (IH : IhP L ws n) (h : Pre L (n + 1) 6 s) : Q L ws 6 s (rdr L (n + 1) 6 s) := by
  have LV := lv
  have SV := slv
  have PV := plv
  obtain ⟨p0, p1, p2, hk⟩ := h
  show Q L ws 6 s (tCmp L (rdr L n) s)
  unfold tCmp
  obtain ⟨s1, x1, e1, q1, q2, q3, -, q4⟩ := IH.go 8 s (by decide) p0 (by omega) (by omega) trivial
  rw [e1]
  simp only [Option.bind_some]
  have hk1 : (rPeek L s1).1 = kd L s1.pos := rfl
  rw [hk1]
  by_cases hc : cmpK (kd L s1.pos) = 0
  · rw [if_pos hc]
    refine ⟨_, _, rfl, q1, q2, by omega, nb (by decide), fun hb => ⟨(q4 hb).1, ?_⟩⟩
    obtain ⟨t, ht⟩ := (q4 hb).2
    exact ⟨t, Dv_out ⟨Dv_lt ht, .inl ht⟩⟩
  · rw [if_neg hc]
    have hop := cmpK_ne hc
    have hlt : s1.pos < L.length := kd_in (by omega)
    rw [step_q L s1 hlt]
    obtain ⟨s2, x2, e2, r1, r2, r3, -, r4⟩ := IH.go 8 { s1 with pos := s1.pos + 1 } (by decide) hlt (by simp only [sz_at]; omega) (by simp only []; omega) trivial
    rw [e2]
    simp only [Option.bind_some, sz_at] at r1 r3 ⊢
    rw [add_q _ _ (by omega)]
    refine ⟨_, _, rfl, ?_, r2, ?_, nb (by decide), fun hb => ?_⟩
    · show s.pos ≤ s2.pos; omega
    · rw [sz_e]; show _ ≤ sz s + 3 * s2.pos + sl 6; omega
    · obtain ⟨y1, t2, y2⟩ := r4 hb
      obtain ⟨y3, t1, y4⟩ := q4 y1
      have g2 : s1.pos + 1 < s2.pos := Dv_lt y2
      have g4 := Dv_lt y4
      refine ⟨y3, _, Dv_out ⟨?_, .inr ⟨s1.pos, t1, t2, by omega, ?_, ?_, y4, y2, rfl⟩⟩⟩
      · show s.pos < s2.pos; omega
      · show s1.pos < s2.pos; omega
      · rcases hop with hop | hop
        · exact .inl ((kw hW (k := 23) rfl rfl).1 hop)
        · exact .inr ((kw hW (k := 24) rfl rfl).1 hop)

theorem q_cons (hW : WsOk names L ws) (IH : IhP L ws n) (h : Pre L (n + 1) 8 s) : Q L ws 8 s (rdr L (n + 1) 8 s) := by
  have LV := lv
  have SV := slv
  have PV := plv
  obtain ⟨p0, p1, p2, hk⟩ := h
  show Q L ws 8 s (tCons L (rdr L n) s)
  unfold tCons
  obtain ⟨s1, x1, e1, q1, q2, q3, -, q4⟩ := IH.go 9 s (by decide) p0 (by omega) (by omega) trivial
  rw [e1]
  simp only [Option.bind_some]
  rcases take_q L 24 (by decide) s1 with ⟨k1, hlt, e4⟩ | ⟨k1, e4⟩
  · rw [e4]
    simp only [if_true]
    obtain ⟨s2, x2, e2, r1, r2, r3, -, r4⟩ := IH.go 8 { s1 with pos := s1.pos + 1 } (by decide) hlt (by simp only [sz_at]; omega) (by simp only []; omega) trivial
    rw [e2]
    simp only [Option.bind_some, sz_at] at r1 r3 ⊢
    rw [add_q _ _ (by omega)]
    refine ⟨_, _, rfl, ?_, r2, ?_, nb (by decide), fun hb => ?_⟩
    · show s.pos ≤ s2.pos; omega
    · rw [sz_e]; show _ ≤ sz s + 3 * s2.pos + sl 8; omega
    · obtain ⟨y1, t2, y2⟩ := r4 hb
      obtain ⟨y3, t1, y4⟩ := q4 y1
      have g2 : s1.pos + 1 < s2.pos := Dv_lt y2
      have g4 := Dv_lt y4
      refine ⟨y3, _, Dv_out ⟨?_, .inr ⟨s1.pos, t1, t2, by omega, ?_, .inl ((kw hW (k := 21) rfl rfl).1 k1), y4, y2, rfl⟩⟩⟩
      · show s.pos < s2.pos; omega
      · show s1.pos < s2.pos; omega
  · rw [e4]
    simp only [Bool.false_eq_true, if_false]
    refine ⟨_, _, rfl, q1, q2, by omega, nb (by decide), fun hb => ⟨(q4 hb).1, ?_⟩⟩
    obtain ⟨t, ht⟩ := (q4 hb).2
    exact ⟨t, Dv_out ⟨Dv_lt ht, .inl ht⟩⟩

theorem q_pat (hW : WsOk names L ws) (IH : IhP L ws n) (h : Pre L (n + 1) 16 s) : Q L ws 16 s (rdr L (n + 1) 16 s) := by
  have LV := lv
  have SV := slv
  have PV := plv
  obtain ⟨p0, p1, p2, hk⟩ := h
  show Q L ws 16 s (tPat L (rdr L n) s)
  unfold tPat
  obtain ⟨s1, x1, e1, q1, q2, q3, -, q4⟩ := IH.go 17 s (by decide) p0 (by omega) (by omega) trivial
  rw [e1]
  simp only [Option.bind_some]
  rcases take_q L 24 (by decide) s1 with ⟨k1, hlt, e4⟩ | ⟨k1, e4⟩
  · rw [e4]
    simp only [if_true]
    obtain ⟨s2, x2, e2, r1, r2, r3, -, r4⟩ := IH.go 16 { s1 with pos := s1.pos + 1 } (by decide) hlt (by simp only [sz_at]; omega) (by simp only []; omega) trivial
    rw [e2]
    simp only [Option.bind_some, sz_at] at r1 r3 ⊢
    rw [addP_q _ _ (by omega)]
    refine ⟨_, _, rfl, ?_, r2, ?_, nb (by decide), fun hb => ?_⟩
    · show s.pos ≤ s2.pos; omega
    · rw [sz_p]; show _ ≤ sz s + 3 * s2.pos + sl 16; omega
    · obtain ⟨y1, t2, y2⟩ := r4 hb
      obtain ⟨y3, t1, y4⟩ := q4 y1
      have g2 : s1.pos + 1 < s2.pos := Dv_lt y2
      have g4 := Dv_lt y4
      refine ⟨y3, _, Dv_out ⟨?_, .inr ⟨s1.pos, t1, t2, by omega, ?_, .inl ((kw hW (k := 21) rfl rfl).1 k1), y4, y2, rfl⟩⟩⟩
      · show s.pos < s2.pos; omega
      · show s1.pos < s2.pos; omega
  · rw [e4]
    simp only [Bool.false_eq_true, if_false]
    refine ⟨_, _, rfl, q1, q2, by omega, nb (by decide), fun hb => ⟨(q4 hb).1, ?_⟩⟩
    obtain ⟨t, ht⟩ := (q4 hb).2
    exact ⟨t, Dv_out ⟨Dv_lt ht, .inl ht⟩⟩

theorem q_sumL (hW : WsOk names L ws) (IH : IhP L ws n) (i : Nat) : ∀ (m : Nat) (s : RS) (l : Int), s.pos ≤ L.length → sz s + 3 * (L.length - s.pos) + 9 ≤ 100000 → L.length - s.pos + 1 ≤ m → 12 * (L.length - s.pos) ≤ n →
    ∃ s' x, tSumL L (rdr L n) m s l = some (s', x) ∧ s.pos ≤ s'.pos ∧ s'.pos ≤ L.length ∧ sz s' + 3 * s.pos ≤ sz s + 3 * s'.pos ∧ (s'.bad = false → s.bad = false ∧ ((∃ t, Dv ws 3 i s.pos t) → ∃ t, Dv ws 3 i s'.pos t))
  | 0, _, _, _, _, h, _ => by omega
  | m + 1, s, l, h1, h2, h3, h4 => by
    have LV := lv
    have SV := slv
    have PV := plv
    rw [tSumL]
    have hk1 : (rPeek L s).1 = kd L s.pos := rfl
    rw [hk1]
    by_cases hc : addK (kd L s.pos) = 0
    · rw [if_pos hc]
      exact ⟨_, _, rfl, Nat.le_refl _, h1, Nat.le_refl _, fun hb => ⟨hb, fun h => h⟩⟩
    · rw [if_neg hc]
      have hop := addK_ne hc
      have hlt : s.pos < L.length := kd_in (by omega)
      rw [step_q L s hlt]
      obtain ⟨s2, x2, e2, r1, r2, r3, -, r4⟩ := IH.go 10 { s with pos := s.pos + 1 } (by decide) hlt (by simp only [sz_at]; omega) (by simp only []; omega) trivial
      rw [e2]
      simp only [Option.bind_some, sz_at] at r1 r3 ⊢
      rw [add_q _ _ (by omega)]
      simp only [Option.bind_some]
      obtain ⟨s3, x3, e3, u1, u2, u3, u4⟩ := q_sumL hW IH i m { s2 with exps := s2.exps ++ [⟨addK (kd L s.pos), 0, 0, l, x2, 0, [], []⟩] } (s2.exps.length : Int) r2 (by rw [sz_e]; show _ + 3 * (L.length - s2.pos) + _ ≤ _; omega) (by show L.length - s2.pos + 1 ≤ m; omega) (by show 12 * (L.length - s2.pos) ≤ n; omega)
      rw [sz_e] at u3
      simp only [] at u1 u3 u4
      refine ⟨s3, x3, e3, by omega, u2, by omega, fun hb => ?_⟩
      obtain ⟨y1, y2⟩ := u4 hb
      obtain ⟨y3, t2, y4⟩ := r4 y1
      refine ⟨y3, fun ⟨t1, ht1⟩ => y2 ⟨_, Dv_out ⟨?_, .inr ⟨s.pos, t1, t2, Dv_lt ht1, ?_, ?_, ht1, y4, rfl⟩⟩⟩⟩
      · have := Dv_lt ht1; omega
      · omega
      · rcases hop with hop | hop
        · exact .inl ((kw hW (k := 25) rfl rfl).1 hop)
        · exact .inr ((kw hW (k := 26) rfl rfl).1 hop)

theorem q_sum (hW : WsOk names L ws) (IH : IhP L ws n) (h : Pre L (n + 1) 9 s) : Q L ws 9 s (rdr L (n + 1) 9 s) := by
  have LV := lv
  have SV := slv
  have PV := plv
  obtain ⟨p0, p1, p2, hk⟩ := h
  show Q L ws 9 s (tSum L (rdr L n) n s)
  unfold tSum
  obtain ⟨s1, x1, e1, q1, q2, q3, -, q4⟩ := IH.go 10 s (by decide) p0 (by omega) (by omega) trivial
  rw [e1]
  simp only [Option.bind_some]
  obtain ⟨s3, x3, e3, u1, u2, u3, u4⟩ := q_sumL hW IH s.pos n s1 x1 q2 (by omega) (by omega) (by omega)
  refine ⟨s3, x3, e3, by omega, u2, by omega, nb (by decide), fun hb => ?_⟩
  obtain ⟨y1, y2⟩ := u4 hb
  obtain ⟨y3, t1, y4⟩ := q4 y1
  exact ⟨y3, y2 ⟨t1, Dv_out ⟨Dv_lt y4, .inl y4⟩⟩⟩

theorem q_prodL (hW : WsOk names L ws) (IH : IhP L ws n) (i : Nat) : ∀ (m : Nat) (s : RS) (l : Int), s.pos ≤ L.length → sz s + 3 * (L.length - s.pos) + 9 ≤ 100000 → L.length - s.pos + 1 ≤ m → 12 * (L.length - s.pos) ≤ n →
    ∃ s' x, tProdL L (rdr L n) m s l = some (s', x) ∧ s.pos ≤ s'.pos ∧ s'.pos ≤ L.length ∧ sz s' + 3 * s.pos ≤ sz s + 3 * s'.pos ∧ (s'.bad = false → s.bad = false ∧ ((∃ t, Dv ws 4 i s.pos t) → ∃ t, Dv ws 4 i s'.pos t))
  | 0, _, _, _, _, h, _ => by omega
  | m + 1, s, l, h1, h2, h3, h4 => by
    have LV := lv
    have SV := slv
    have PV := plv
    rw [tProdL]
    have hk1 : (rPeek L s).1 = kd L s.pos := rfl
    rw [hk1]
    by_cases hc : mulK (kd L s.pos) = 0
    · rw [if_pos hc]
      exact ⟨_, _, rfl, Nat.le_refl _, h1, Nat.le_refl _, fun hb => ⟨hb, fun h => h⟩⟩
    · rw [if_neg hc]
      have hop := mulK_ne hc
      have hlt : s.pos < L.length := kd_in (by omega)
      rw [step_q L s hlt]
      obtain ⟨s2, x2, e2, r1, r2, r3, -, r4⟩ := IH.go 11 { s with pos := s.pos + 1 } (by decide) hlt (by simp only [sz_at]; omega) (by simp only []; omega) trivial
      rw [e2]
      simp only [Option.bind_some, sz_at] at r1 r3 ⊢
      rw [add_q _ _ (by omega)]
      simp only [Option.bind_some]
      obtain ⟨s3, x3, e3, u1, u2, u3, u4⟩ := q_prodL hW IH i m { s2 with exps := s2.exps ++ [⟨mulK (kd L s.pos), 0, 0, l, x2, 0, [], []⟩] } (s2.exps.length : Int) r2 (by rw [sz_e]; show _ + 3 * (L.length - s2.pos) + _ ≤ _; omega) (by show L.length - s2.pos + 1 ≤ m; omega) (by show 12 * (L.length - s2.pos) ≤ n; omega)
      rw [sz_e] at u3
      simp only [] at u1 u3 u4
      refine ⟨s3, x3, e3, by omega, u2, by omega, fun hb => ?_⟩
      obtain ⟨y1, y2⟩ := u4 hb
      obtain ⟨y3, t2, y4⟩ := r4 y1
      refine ⟨y3, fun ⟨t1, ht1⟩ => y2 ⟨_, Dv_out ⟨?_, .inr ⟨s.pos, t1, t2, Dv_lt ht1, ?_, ?_, ht1, y4, rfl⟩⟩⟩⟩
      · have := Dv_lt ht1; omega
      · omega
      · rcases hop with hop | hop
        · exact .inl ((kw hW (k := 27) rfl rfl).1 hop)
        · exact .inr ((kw hW (k := 28) rfl rfl).1 hop)

theorem q_prod (hW : WsOk names L ws) (IH : IhP L ws n) (h : Pre L (n + 1) 10 s) : Q L ws 10 s (rdr L (n + 1) 10 s) := by
  have LV := lv
  have SV := slv
  have PV := plv
  obtain ⟨p0, p1, p2, hk⟩ := h
  show Q L ws 10 s (tProd L (rdr L n) n s)
  unfold tProd
  obtain ⟨s1, x1, e1, q1, q2, q3, -, q4⟩ := IH.go 11 s (by decide) p0 (by omega) (by omega) trivial
  rw [e1]
  simp only [Option.bind_some]
  obtain ⟨s3, x3, e3, u1, u2, u3, u4⟩ := q_prodL hW IH s.pos n s1 x1 q2 (by omega) (by omega) (by omega)
  refine ⟨s3, x3, e3, by omega, u2, by omega, nb (by decide), fun hb => ?_⟩
  obtain ⟨y1, y2⟩ := u4 hb
  obtain ⟨y3, t1, y4⟩ := q4 y1
  exact ⟨y3, y2 ⟨t1, Dv_out ⟨Dv_lt y4, .inl y4⟩⟩⟩
end
end Go.Proofs.YtnbhnjokpcdnnaaDoor

namespace Go.Proofs.YtnbhnjokpcdnnaaDoor
section
variable {names : List (List UInt8)} {L : List (Int × Int)} {ws : List RW} {n : Nat} {s : RS}

theorem preK_ne {k : Int} (h : ¬ preK k = 0) : k = 15 ∨ k = 16 ∨ k = 18 := by
  unfold preK at h
  split at h
  · exact .inl (by assumption)
  split at h
  · exact .inr (.inl (by assumption))
  split at h
  · exact .inr (.inr (by assumption))
  · exact (h rfl).elim

theorem constK_ne {k : Int} (h : ¬ constK k = 0) : k = 1 ∨ k = 20 ∨ k = 21 ∨ k = 25 := by
  unfold constK at h
  split at h
  · exact .inl (by assumption)
  split at h
  · exact .inr (.inl (by assumption))
  split at h
  · exact .inr (.inr (.inl (by assumption)))
  split at h
  · exact .inr (.inr (.inr (by assumption)))
  · exact (h rfl).elim

theorem atomK_ne {k : Int} (h : ¬ atomK k = 0) : k = 2 ∨ k = 19 ∨ k = 1 ∨ k = 20 ∨ k = 21 ∨ k = 25 := by
  unfold atomK at h
  split at h
  · exact .inl (by assumption)
  split at h
  · exact .inr (.inl (by assumption))
  · exact .inr (.inr (constK_ne h))

theorem wd_tx {i : Nat} {x : List UInt8} (h : wd ws i x = true) : (wAt ws i).isName = false ∧ tx ws i = x ∧ i < ws.length := by
  simp only [wd, Bool.and_eq_true, beq_iff_eq, decide_eq_true_eq, Bool.not_eq_true'] at h
  exact ⟨h.2, h.1.2, h.1.1⟩

theorem preP_iff (hW : WsOk names L ws) {i : Nat} (hi : i < L.length) : isPre ws i = true ↔ ¬ preK (kd L i) = 0 := by
  have h2 : i < ws.length := hW.1 ▸ hi
  constructor
  · intro h
    unfold isPre at h
    simp only [Bool.and_eq_true, Bool.not_eq_true', Bool.or_eq_true, beq_iff_eq] at h
    have hw : ∀ x, tx ws i = x → wd ws i x = true := by
      intro x hx
      unfold wd
      have : (wAt ws i).text = x := hx
      simp [h2, this, h.1]
    rcases h.2 with (h3 | h3) | h3
    · rw [(kw hW (k := 12) (c := 15) rfl rfl).2 (hw _ h3)]; decide
    · rw [(kw hW (k := 13) (c := 16) rfl rfl).2 (hw _ h3)]; decide
    · rw [(kw hW (k := 15) (c := 18) rfl rfl).2 (hw _ h3)]; decide
  · intro h
    unfold isPre
    rcases preK_ne h with h | h | h
    · obtain ⟨h3, h4, -⟩ := wd_tx ((kw hW (k := 12) rfl rfl).1 h)
      rw [h3, h4]; decide
    · obtain ⟨h3, h4, -⟩ := wd_tx ((kw hW (k := 13) rfl rfl).1 h)
      rw [h3, h4]; decide
    · obtain ⟨h3, h4, -⟩ := wd_tx ((kw hW (k := 15) rfl rfl).1 h)
      rw [h3, h4]; decide

theorem q_app (hW : WsOk names L ws) (IH : IhP L ws n) (h : Pre L (n + 1) 11 s) : Q L ws 11 s (rdr L (n + 1) 11 s) := by
  have LV := lv
  have SV := slv
  have PV := plv
  obtain ⟨p0, p1, p2, hk⟩ := h
  show Q L ws 11 s (tApp L (rdr L n) s)
  unfold tApp
  have hk1 : (rPeek L s).1 = kd L s.pos := rfl
  rw [hk1]
  by_cases h17 : kd L s.pos = 17
  · rw [if_pos h17]
    obtain ⟨s1, x1, e1, q1, q2, q3, -, q4⟩ := IH.go 12 s (by decide) p0 (by omega) (by omega) h17
    exact ⟨s1, x1, e1, q1, q2, by omega, nb (by decide), q4⟩
  rw [if_neg h17]
  by_cases hp : preK (kd L s.pos) = 0
  · rw [if_pos hp]
    obtain ⟨s1, x1, e1, q1, q2, q3, -, q4⟩ := IH.go 13 s (by decide) p0 (by omega) (by omega) ⟨h17, hp⟩
    exact ⟨s1, x1, e1, q1, q2, by omega, nb (by decide), q4⟩
  rw [if_neg hp]
  have hlt : s.pos < L.length := kd_in (by have := preK_ne hp; omega)
  rw [step_q L s hlt]
  obtain ⟨s2, x2, e2, r1, r2, r3, -, r4⟩ := IH.go 14 { s with pos := s.pos + 1 } (by decide) hlt (by simp only [sz_at]; omega) (by simp only []; omega) trivial
  rw [e2]
  simp only [Option.bind_some, sz_at] at r1 r3 ⊢
  rw [add_q _ _ (by omega)]
  refine ⟨_, _, rfl, ?_, r2, ?_, nb (by decide), fun hb => ?_⟩
  · show s.pos ≤ s2.pos; omega
  · rw [sz_e]; show _ ≤ sz s + 3 * s2.pos + sl 11; omega
  · obtain ⟨y1, t2, y2⟩ := r4 hb
    have g2 : s.pos + 1 < s2.pos := Dv_lt y2
    refine ⟨y1, nd (tx ws s.pos) 0 [] [] [t2] [], Dv_out ⟨?_, ?_⟩⟩
    · show s.pos < s2.pos; omega
    · show bApp ws _ _ _ _
      unfold bApp
      rw [if_pos ((preP_iff hW hlt).2 hp)]
      exact ⟨t2, y2, rfl⟩

theorem q_throw (hW : WsOk names L ws) (IH : IhP L ws n) (h : Pre L (n + 1) 12 s) : Q L ws 12 s (rdr L (n + 1) 12 s) := by
  have LV := lv
  have SV := slv
  have PV := plv
  obtain ⟨p0, p1, p2, hk⟩ := h
  replace hk : kd L s.pos = 17 := hk
  have hlt : s.pos < L.length := kd_in (by omega)
  show Q L ws 12 s (tThrow L (rdr L n) s)
  unfold tThrow
  obtain ⟨s1, e1, z1, a1, b1, c1, d1⟩ := wq L 17 (by decide) s p0
  have d1' := d1 hk
  rw [e1]
  obtain ⟨s2, x2, e2, q1, q2, q3, -, q4⟩ := IH.go 14 s1 (by decide) b1 (by omega) (by omega) trivial
  rw [e2]
  simp only [Option.bind_some]
  obtain ⟨s4, x4, e4, r1, r2, r3, -, r4⟩ := IH.go 14 s2 (by decide) q2 (by omega) (by omega) trivial
  rw [e4]
  simp only [Option.bind_some]
  rw [add_q _ _ (by omega)]
  refine ⟨_, _, rfl, ?_, r2, ?_, nb (by decide), fun hb => ?_⟩
  · show s.pos ≤ s4.pos; omega
  · rw [sz_e]; show _ ≤ sz s + 3 * s4.pos + sl 12; omega
  · obtain ⟨y6, t4, y7⟩ := r4 hb
    obtain ⟨y11, t2, y12⟩ := q4 y6
    have y14 := c1 y11
    have g1 := Dv_lt y7
    have g2 := Dv_lt y12
    have hw := (kw hW (k := 14) rfl rfl).1 hk
    refine ⟨y14.1, nd [116, 104, 114, 111, 119] 0 [] [] [t2, t4] [], Dv_out ⟨?_, ?_⟩⟩
    · show s.pos < s4.pos; omega
    · show bApp ws _ _ _ _
      unfold bApp
      rw [if_neg (fun h => (preP_iff hW hlt).1 h (by rw [hk]; rfl)), if_pos hw]
      exact .inl ⟨s2.pos, t2, t4, by omega, g1, y7, by rw [← d1']; exact y12, rfl⟩

theorem q_callL (hW : WsOk names L ws) (IH : IhP L ws n) (i : Nat) (hi : i < L.length) (hk : kd L i ≠ 17 ∧ preK (kd L i) = 0) : ∀ (m : Nat) (s : RS) (l : Int), s.pos ≤ L.length → sz s + 3 * (L.length - s.pos) + 9 ≤ 100000 → L.length - s.pos + 1 ≤ m → 12 * (L.length - s.pos) + 3 ≤ n →
    ∃ s' x, tCallL L (rdr L n) m s l = some (s', x) ∧ s.pos ≤ s'.pos ∧ s'.pos ≤ L.length ∧ sz s' + 3 * s.pos ≤ sz s + 3 * s'.pos ∧ (s'.bad = false → s.bad = false ∧ ((∃ t, Dv ws 5 i s.pos t) → ∃ t, Dv ws 5 i s'.pos t))
  | 0, _, _, _, _, h, _ => by omega
  | m + 1, s, l, h1, h2, h3, h4 => by
    have LV := lv
    have SV := slv
    have PV := plv
    rw [tCallL]
    have hk1 : (rPeek L s).1 = kd L s.pos := rfl
    rw [hk1]
    by_cases hc : begA (kd L s.pos) = true
    · rw [if_pos hc]
      obtain ⟨s2, x2, e2, r1, r2, r3, r5, r4⟩ := IH.go 14 s (by decide) h1 (by omega) (by omega) trivial
      have r6 := r5 (.inl rfl) hc
      rw [e2]
      simp only [Option.bind_some]
      rw [add_q _ _ (by omega)]
      simp only [Option.bind_some]
      have hlt : s.pos < L.length := kd_in (fun h => by rw [h] at hc; cases hc)
      obtain ⟨s3, x3, e3, u1, u2, u3, u4⟩ := q_callL hW IH i hi hk m { s2 with exps := s2.exps ++ [⟨26, 0, 0, l, x2, 0, [], []⟩] } (s2.exps.length : Int) r2 (by rw [sz_e]; show _ + 3 * (L.length - s2.pos) + _ ≤ _; omega) (by show L.length - s2.pos + 1 ≤ m; omega) (by show 12 * (L.length - s2.pos) + 3 ≤ n; omega)
      rw [sz_e] at u3
      simp only [] at u1 u3 u4
      refine ⟨s3, x3, e3, by omega, u2, by omega, fun hb => ?_⟩
      obtain ⟨y1, y2⟩ := u4 hb
      obtain ⟨y3, t2, y4⟩ := r4 y1
      have g4 := Dv_lt y4
      refine ⟨y3, fun ⟨t1, ht1⟩ => y2 ⟨nd [99, 97, 108, 108] 0 [] [] [t1, t2] [], Dv_out ⟨?_, ?_⟩⟩⟩
      · have := Dv_lt ht1; omega
      · show bApp ws _ _ _ _
        unfold bApp
        rw [if_neg (fun h => (preP_iff hW hi).1 h hk.2), if_neg (fun h => hk.1 ((kw hW (k := 14) rfl rfl).2 h))]
        exact .inl ⟨s.pos, t1, t2, Dv_lt ht1, g4, y4, ht1, rfl⟩
    · rw [if_neg hc]
      exact ⟨_, _, rfl, Nat.le_refl _, h1, Nat.le_refl _, fun hb => ⟨hb, fun h => h⟩⟩

theorem q_call (hW : WsOk names L ws) (IH : IhP L ws n) (h : Pre L (n + 1) 13 s) : Q L ws 13 s (rdr L (n + 1) 13 s) := by
  have LV := lv
  have SV := slv
  have PV := plv
  obtain ⟨p0, p1, p2, hk⟩ := h
  show Q L ws 13 s (tCall L (rdr L n) n s)
  unfold tCall
  obtain ⟨s1, x1, e1, q1, q2, q3, -, q4⟩ := IH.go 14 s (by decide) p0 (by omega) (by omega) trivial
  rw [e1]
  simp only [Option.bind_some]
  by_cases hi : s.pos < L.length
  · obtain ⟨s3, x3, e3, u1, u2, u3, u4⟩ := q_callL hW IH s.pos hi hk n s1 x1 q2 (by omega) (by omega) (by omega)
    refine ⟨s3, x3, e3, by omega, u2, by omega, nb (by decide), fun hb => ?_⟩
    obtain ⟨y1, y2⟩ := u4 hb
    obtain ⟨y3, t1, y4⟩ := q4 y1
    refine ⟨y3, y2 ⟨t1, Dv_out ⟨Dv_lt y4, ?_⟩⟩⟩
    show bApp ws _ _ _ _
    unfold bApp
    rw [if_neg (fun h => (preP_iff hW hi).1 h hk.2), if_neg (fun h => hk.1 ((kw hW (k := 14) rfl rfl).2 h))]
    exact .inr y4
  · have hs1 : s1.pos = L.length := by omega
    have hk0 : kd L s1.pos = 0 := kd_out (by omega)
    have hb1 : s1.bad = true := by
      by_cases hb : s1.bad = true
      · exact hb
      · obtain ⟨_, t, ht⟩ := q4 (by simpa using hb)
        have := Dv_lt ht
        omega
    have e3 : tCallL L (rdr L n) n s1 x1 = some (s1, x1) := by
      match n, p2 with
      | n + 1, _ =>
        rw [tCallL]
        have hk1 : (rPeek L s1).1 = kd L s1.pos := rfl
        rw [hk1, hk0]
        rfl
      | 0, h => omega
    exact ⟨s1, x1, e3, q1, q2, by omega, nb (by decide), fun hb => by rw [hb1] at hb; cases hb⟩
end
end Go.Proofs.YtnbhnjokpcdnnaaDoor
