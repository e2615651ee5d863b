
set_option linter.unusedSimpArgs false
set_option linter.unusedVariables false

/- Plain twins of the reader's functions: no program, no world. Kinds of words and of parts are the numbers of packages words and tree. -/
namespace Go.Proofs.YtnbhnjokpcdnnaaGreatDoor

def constK (k : Int) : Int := if k = 1 then 1 else if k = 20 then 2 else if k = 21 then 3 else if k = 25 then 5 else 0
def cmpK (k : Int) : Int := if k = 26 then 16 else if k = 27 then 17 else 0
def addK (k : Int) : Int := if k = 28 then 18 else if k = 29 then 19 else 0
def mulK (k : Int) : Int := if k = 30 then 20 else if k = 31 then 21 else 0
def preK (k : Int) : Int := if k = 15 then 22 else if k = 16 then 23 else if k = 18 then 24 else 0
def atomK (k : Int) : Int := if k = 2 then 4 else if k = 19 then 9 else constK k
def begA (k : Int) : Bool := if k = 32 then true else !(atomK k == 0)

/-- An expression as the reader lays it. -/
structure EX where
  kind : Int := 0
  num : Int := 0
  binder : Int := 0
  first : Int := 0
  second : Int := 0
  third : Int := 0
  funs : List (Int × Int × Int) := []
  arms : List (Int × Int) := []

structure PT where
  kind : Int := 0
  num : Int := 0
  binder : Int := 0
  first : Int := 0
  second : Int := 0

/-- How the reader stands. -/
structure RS where
  pos : Nat
  bad : Bool
  exps : List EX
  pats : List PT
  bnds : List Int

section
variable (ws : List (Int × Int))

def rPeek (s : RS) : Int × Int := ws.getD s.pos (0, 0)
def rStep (s : RS) : RS := if s.pos < ws.length then { s with pos := s.pos + 1 } else s
def rFail (s : RS) : RS := { s with bad := true, pos := ws.length }
def rTake (k : Int) (s : RS) : RS × Bool := if (rPeek ws s).1 = k then (rStep ws s, true) else (s, false)
def rWant (k : Int) (s : RS) : RS := if (rTake ws k s).2 then (rTake ws k s).1 else rFail ws (rTake ws k s).1
def rBinder (s : RS) : RS × Int := ({ rWant ws 2 s with bnds := (rWant ws 2 s).bnds ++ [(rPeek ws s).2] }, (rWant ws 2 s).bnds.length)
def rExp (x : EX) (s : RS) : RS × Int := ({ s with exps := s.exps ++ [x] }, s.exps.length)
def rPat (x : PT) (s : RS) : RS × Int := ({ s with pats := s.pats ++ [x] }, s.pats.length)
end

end Go.Proofs.YtnbhnjokpcdnnaaGreatDoor
