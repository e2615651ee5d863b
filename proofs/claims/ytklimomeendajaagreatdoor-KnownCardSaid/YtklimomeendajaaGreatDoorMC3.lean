import Derived.Test.YtklimomeendajaaGreatDoorMC2
import Derived.Test.YtklimomeendajaaGreatDoorMA8
set_option linter.unusedVariables false
set_option linter.unusedSimpArgs false
/- Known, plain: the rows, read off the program; what the twin says of each. -/
namespace Go.Proofs.YtklimomeendajaaGreatDoor

def goneOps (F : Func) : Array Oper := match F.body with
  | some (.seq _ (.seq (.region _ ops _) _)) => ops
  | _ => #[]
def gField (F : Func) (k i : Nat) : Value := match (((goneOps F)[k]?).map fun o : Oper => o.op) with
  | some (Op.build _ fs) => (match fs.toList.find? fun p => p.1 == i with
    | some (_, .const v) => v
    | _ => .bool false)
  | _ => .bool false
def gStr (F : Func) (k i : Nat) : List UInt8 := match gField F k i with
  | .string s => s.data.toList
  | _ => []
def gT (F : Func) (k : Nat) : List UInt8 := gStr F k 0
def gY (F : Func) (k : Nat) : List UInt8 := gStr F k 1
def gV (F : Func) (k : Nat) : List UInt8 := gStr F k 2
def gS (F : Func) (k : Nat) : Int := match gField F k 3 with
  | .int _ n => n
  | _ => 0

/-- What the code is, by the twin. -/
def cOf (n : Nat) (t : List UInt8) : Option CX :=
  (sSplit t n ⟨0, [], []⟩).bind fun x => (rdr x.1 n 0 rs0).bind fun r => (gExp r.1 n r.2 []).bind fun g => (kKept r.1.bnds.length (mOf r.1 g) r.1.exps [] []).bind fun kp => some ⟨r.1, r.2, mOf r.1 g, kp⟩

/-- The runs of Known: so many times 4000 jumps, while it runs. -/
def kLoop (c : CX) (f : Nat) : Nat → MX → Option MX
  | 0, m => if m.pr.length ≤ 1000000000 then some m else none
  | n + 1, m => if m.pr.length ≤ 1000000000 then (if m.st = 0 then (kGoes c.t c.ms c.kp f 4000 m).bind fun m' => kLoop c f n m' else some m) else none

def errN (s : List UInt8) : Int := if s = [108, 101, 120] then 2 else if s = [115, 121, 110, 116, 97, 120] then 3 else if s = [115, 99, 111, 112, 101] then 4 else 5

def rowOk (F : Func) (n k : Nat) : Bool := match yComp n (gT F k) with
  | none => false
  | some (e, o) => if gY F k = [] then decide (e = errN (gV F k)) else decide (e = 0) && decide (o = gY F k) && (match (cOf n (gT F k)).bind fun c => kLoop c n 64 (kStart c.root []) with
    | none => false
    | some m => decide (m.st = gS F k) && decide (m.tx = gV F k))

def rowsOk (F : Func) : Nat → Bool
  | 0 => true
  | k + 1 => rowOk F 2000 k && rowsOk F k
end Go.Proofs.YtklimomeendajaaGreatDoor

/- Known's rows, by the kernel. -/
namespace Go.Proofs.YtklimomeendajaaGreatDoor
set_option maxRecDepth 1000000 in
theorem rows47 : rowsOk Tryz.f29 47 = true := by decide +kernel
end Go.Proofs.YtklimomeendajaaGreatDoor
