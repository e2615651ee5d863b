import Derived.Test.YtklimomeendajaaGreatDoorMA8
import Derived.Test.YtklimomeendajaaGreatDoorMC2
import Derived.Lib.LaidTab
import Derived.Lib.ItoaNum
set_option linter.unusedVariables false
set_option linter.unusedSimpArgs false
/- What a run holds, as it lies: by recursion over the Code that stands for it. -/
namespace Go.Proofs.YtklimomeendajaaGreatDoor
open Go.RowKit

abbrev iV (n : Int) : Value := .int .i64 n
abbrev pN : Value := .pointer none
abbrev pT (g : Nat) : Value := .pointer (some ⟨g, 0, none⟩)

/-- 0: a value's seven cells (4 to 8: their rest). 1: a sight's pointer (9, 10, 11: its block's cells). 2: a wait's pointer (12, 13). 3: the parts' pointer. -/
def Lies (w : World) : Code → Nat → List Value → Prop
  | .skip, m, l => (m = 1 ∨ m = 2 ∨ m = 3) ∧ l = [pN]
  | .seq a b, 0, l => ∃ k l', a = cN k ∧ l = iV k :: l' ∧ Lies w b 4 l'
  | .seq a b, 1, l => ∃ g E p, l = [pT g] ∧ w.heap[g]? = some (.cells (E ++ [p]).toArray 247 (0, 0)) ∧ Lies w a 9 E ∧ Lies w b 1 [p]
  | .seq a b, 2, l => ∃ g E p, l = [pT g] ∧ w.heap[g]? = some (.cells (E ++ [p]).toArray 250 (0, 0)) ∧ Lies w a 12 E ∧ Lies w b 2 [p]
  | .seq a b, 3, l => ∃ g A B, l = [pT g] ∧ w.heap[g]? = some (.cells (A ++ B).toArray 328 (0, 0)) ∧ Lies w a 0 A ∧ Lies w b 0 B
  | .seq a b, 4, l => ∃ k l', a = cN k ∧ l = iV k :: l' ∧ Lies w b 5 l'
  | .seq a b, 5, l => ∃ p l', l = p :: l' ∧ Lies w a 3 [p] ∧ Lies w b 6 l'
  | .seq a b, 6, l => ∃ k l', a = cN k ∧ l = iV k :: l' ∧ Lies w b 7 l'
  | .seq a b, 7, l => ∃ k l', a = cN k ∧ l = iV k :: l' ∧ Lies w b 8 l'
  | .seq a b, 8, l => ∃ p q, l = [p, q] ∧ Lies w a 1 [p] ∧ Lies w b 2 [q]
  | .seq a b, 9, l => ∃ k l', a = cN k ∧ l = iV k :: l' ∧ Lies w b 10 l'
  | .seq a b, 10, l => ∃ k V p, a = cN k ∧ l = V ++ [iV k, p] ∧ Lies w b 11 (V ++ [p])
  | .seq a b, 11, l => ∃ V p, l = V ++ [p] ∧ Lies w a 0 V ∧ Lies w b 1 [p]
  | .seq a b, 12, l => ∃ k l', a = cN k ∧ l = iV k :: l' ∧ Lies w b 13 l'
  | .seq a b, 13, l => ∃ (k : Bool) (p : Value) (V : List Value), a = cN (if k then 1 else 0) ∧ l = p :: .bool k :: V ∧ Lies w b 11 (V ++ [p])
  | _, _, _ => False

section
variable {w : World} {a b : Code} {l : List Value}
theorem lies0 : Lies w (.seq a b) 0 l ↔ ∃ k l', a = cN k ∧ l = iV k :: l' ∧ Lies w b 4 l' := Iff.rfl
theorem lies1 : Lies w (.seq a b) 1 l ↔ ∃ g E p, l = [pT g] ∧ w.heap[g]? = some (.cells (E ++ [p]).toArray 247 (0, 0)) ∧ Lies w a 9 E ∧ Lies w b 1 [p] := Iff.rfl
theorem lies2 : Lies w (.seq a b) 2 l ↔ ∃ g E p, l = [pT g] ∧ w.heap[g]? = some (.cells (E ++ [p]).toArray 250 (0, 0)) ∧ Lies w a 12 E ∧ Lies w b 2 [p] := Iff.rfl
theorem lies3 : Lies w (.seq a b) 3 l ↔ ∃ g A B, l = [pT g] ∧ w.heap[g]? = some (.cells (A ++ B).toArray 328 (0, 0)) ∧ Lies w a 0 A ∧ Lies w b 0 B := Iff.rfl
theorem lies4 : Lies w (.seq a b) 4 l ↔ ∃ k l', a = cN k ∧ l = iV k :: l' ∧ Lies w b 5 l' := Iff.rfl
theorem lies5 : Lies w (.seq a b) 5 l ↔ ∃ p l', l = p :: l' ∧ Lies w a 3 [p] ∧ Lies w b 6 l' := Iff.rfl
theorem lies6 : Lies w (.seq a b) 6 l ↔ ∃ k l', a = cN k ∧ l = iV k :: l' ∧ Lies w b 7 l' := Iff.rfl
theorem lies7 : Lies w (.seq a b) 7 l ↔ ∃ k l', a = cN k ∧ l = iV k :: l' ∧ Lies w b 8 l' := Iff.rfl
theorem lies8 : Lies w (.seq a b) 8 l ↔ ∃ p q, l = [p, q] ∧ Lies w a 1 [p] ∧ Lies w b 2 [q] := Iff.rfl
theorem lies9 : Lies w (.seq a b) 9 l ↔ ∃ k l', a = cN k ∧ l = iV k :: l' ∧ Lies w b 10 l' := Iff.rfl
theorem lies10 : Lies w (.seq a b) 10 l ↔ ∃ k V p, a = cN k ∧ l = V ++ [iV k, p] ∧ Lies w b 11 (V ++ [p]) := Iff.rfl
theorem lies11 : Lies w (.seq a b) 11 l ↔ ∃ V p, l = V ++ [p] ∧ Lies w a 0 V ∧ Lies w b 1 [p] := Iff.rfl
theorem lies12 : Lies w (.seq a b) 12 l ↔ ∃ k l', a = cN k ∧ l = iV k :: l' ∧ Lies w b 13 l' := Iff.rfl
theorem lies13 : Lies w (.seq a b) 13 l ↔ ∃ (k : Bool) (p : Value) (V : List Value), a = cN (if k then 1 else 0) ∧ l = p :: .bool k :: V ∧ Lies w b 11 (V ++ [p]) := Iff.rfl
end

/-- The types of the blocks that a run's values lie in. -/
def vTy (ty : TypeId) : Prop := ty = 247 ∨ ty = 250 ∨ ty = 328

/-- The blocks that values lie in are as they were. -/
def Kp (w w' : World) : Prop := ∀ (g : Nat) (cur : Array Value) (ty : TypeId), w.heap[g]? = some (.cells cur ty (0, 0)) → vTy ty → w'.heap[g]? = w.heap[g]?

theorem Kp.refl (w : World) : Kp w w := fun _ _ _ _ _ => rfl
theorem Kp.trans {w w1 w2 : World} (h : Kp w w1) (h2 : Kp w1 w2) : Kp w w2 := fun g cur ty hg ht => by
  have e := h g cur ty hg ht
  rw [h2 g cur ty (e.trans hg) ht, e]

theorem Fr.kp {O : Nat → Prop} {w w' : World} (hF : Fr O w w') (hO : ∀ b cur ty, O b → w.heap[b]? = some (.cells cur ty (0, 0)) → ¬ vTy ty) : Kp w w' := fun g cur ty hg ht =>
  hF.block g (blk_lt hg) fun ho => hO g cur ty ho hg ht

theorem Lies.keep {w w' : World} (hk : Kp w w') : ∀ (c : Code) (m : Nat) (l : List Value), Lies w c m l → Lies w' c m l
  | .skip, _, _, h => h
  | .seq a b, 0, _, h => let ⟨k, l', h1, h2, h3⟩ := lies0.1 h; lies0.2 ⟨k, l', h1, h2, Lies.keep hk b _ _ h3⟩
  | .seq a b, 1, _, h => let ⟨g, E, p, h1, h2, h3, h4⟩ := lies1.1 h; lies1.2 ⟨g, E, p, h1, (hk g _ _ h2 (.inl rfl)).trans h2, Lies.keep hk a _ _ h3, Lies.keep hk b _ _ h4⟩
  | .seq a b, 2, _, h => let ⟨g, E, p, h1, h2, h3, h4⟩ := lies2.1 h; lies2.2 ⟨g, E, p, h1, (hk g _ _ h2 (.inr (.inl rfl))).trans h2, Lies.keep hk a _ _ h3, Lies.keep hk b _ _ h4⟩
  | .seq a b, 3, _, h => let ⟨g, E, p, h1, h2, h3, h4⟩ := lies3.1 h; lies3.2 ⟨g, E, p, h1, (hk g _ _ h2 (.inr (.inr rfl))).trans h2, Lies.keep hk a _ _ h3, Lies.keep hk b _ _ h4⟩
  | .seq a b, 4, _, h => let ⟨k, l', h1, h2, h3⟩ := lies4.1 h; lies4.2 ⟨k, l', h1, h2, Lies.keep hk b _ _ h3⟩
  | .seq a b, 5, _, h => let ⟨k, l', h1, h2, h3⟩ := lies5.1 h; lies5.2 ⟨k, l', h1, Lies.keep hk a _ _ h2, Lies.keep hk b _ _ h3⟩
  | .seq a b, 6, _, h => let ⟨k, l', h1, h2, h3⟩ := lies6.1 h; lies6.2 ⟨k, l', h1, h2, Lies.keep hk b _ _ h3⟩
  | .seq a b, 7, _, h => let ⟨k, l', h1, h2, h3⟩ := lies7.1 h; lies7.2 ⟨k, l', h1, h2, Lies.keep hk b _ _ h3⟩
  | .seq a b, 8, _, h => let ⟨k, l', h1, h2, h3⟩ := lies8.1 h; lies8.2 ⟨k, l', h1, Lies.keep hk a _ _ h2, Lies.keep hk b _ _ h3⟩
  | .seq a b, 9, _, h => let ⟨k, l', h1, h2, h3⟩ := lies9.1 h; lies9.2 ⟨k, l', h1, h2, Lies.keep hk b _ _ h3⟩
  | .seq a b, 10, _, h => let ⟨k, V, p, h1, h2, h3⟩ := lies10.1 h; lies10.2 ⟨k, V, p, h1, h2, Lies.keep hk b _ _ h3⟩
  | .seq a b, 11, _, h => let ⟨V, p, h1, h2, h3⟩ := lies11.1 h; lies11.2 ⟨V, p, h1, Lies.keep hk a _ _ h2, Lies.keep hk b _ _ h3⟩
  | .seq a b, 12, _, h => let ⟨k, l', h1, h2, h3⟩ := lies12.1 h; lies12.2 ⟨k, l', h1, h2, Lies.keep hk b _ _ h3⟩
  | .seq a b, 13, _, h => let ⟨k, V, p, h1, h2, h3⟩ := lies13.1 h; lies13.2 ⟨k, V, p, h1, h2, Lies.keep hk b _ _ h3⟩
  | .seq _ _, _ + 14, _, h => h.elim
  | .region _ _ _, _, _, h => h.elim
  | .cond _ _ _, _, _, h => h.elim
  | .block _ _, _, _, h => h.elim
  | .loop _, _, _, h => h.elim
  | .rangeFunc _ _ _ _, _, _, h => h.elim
  | .exit _, _, _, h => h.elim
  | .scope _, _, _, h => h.elim
  | .label _, _, _, h => h.elim
  | .goto _, _, _, h => h.elim
  | .ret, _, _, h => h.elim
  | .refuse _, _, _, h => h.elim

/-- A value's cells. -/
abbrev vCells (k n : Int) (p : Value) (pr bd : Int) (q r : Value) : List Value := [iV k, iV n, p, iV pr, iV bd, q, r]

theorem lies_seq {w : World} {c : Code} {m : Nat} {l : List Value} (h : Lies w c m l) (hm : m ≠ 1 ∧ m ≠ 2 ∧ m ≠ 3) : ∃ a b, c = .seq a b := by
  cases c with
  | seq a b => exact ⟨a, b, rfl⟩
  | skip => obtain ⟨h1, -⟩ := h; omega
  | region _ _ _ => exact h.elim
  | cond _ _ _ => exact h.elim
  | block _ _ => exact h.elim
  | loop _ => exact h.elim
  | rangeFunc _ _ _ _ => exact h.elim
  | exit _ => exact h.elim
  | scope _ => exact h.elim
  | label _ => exact h.elim
  | goto _ => exact h.elim
  | ret => exact h.elim
  | refuse _ => exact h.elim

theorem lies_ptr {w : World} {c : Code} {m : Nat} {l : List Value} (h : Lies w c m l) (hm : m = 1 ∨ m = 2 ∨ m = 3) : (c = .skip ∧ l = [pN]) ∨ ∃ a b, c = .seq a b := by
  cases c with
  | seq a b => exact .inr ⟨a, b, rfl⟩
  | skip => exact .inl ⟨rfl, h.2⟩
  | region _ _ _ => exact h.elim
  | cond _ _ _ => exact h.elim
  | block _ _ => exact h.elim
  | loop _ => exact h.elim
  | rangeFunc _ _ _ _ => exact h.elim
  | exit _ => exact h.elim
  | scope _ => exact h.elim
  | label _ => exact h.elim
  | goto _ => exact h.elim
  | ret => exact h.elim
  | refuse _ => exact h.elim

theorem val_out {w : World} {c : Code} {l : List Value} (h : Lies w c 0 l) : ∃ k n pa pr bd sg wt p q r, c = vMk k n pa pr bd sg wt ∧ l = vCells k n p pr bd q r ∧ Lies w pa 3 [p] ∧ Lies w sg 1 [q] ∧ Lies w wt 2 [r] := by
  obtain ⟨a, b, rfl⟩ := lies_seq h (by decide)
  obtain ⟨k, l1, rfl, rfl, h1⟩ := lies0.1 h
  obtain ⟨a, b, rfl⟩ := lies_seq h1 (by decide)
  obtain ⟨n, l2, rfl, rfl, h2⟩ := lies4.1 h1
  obtain ⟨a, b, rfl⟩ := lies_seq h2 (by decide)
  obtain ⟨p, l3, rfl, hp, h3⟩ := lies5.1 h2
  obtain ⟨c, d, rfl⟩ := lies_seq h3 (by decide)
  obtain ⟨pr, l4, rfl, rfl, h4⟩ := lies6.1 h3
  obtain ⟨c, d, rfl⟩ := lies_seq h4 (by decide)
  obtain ⟨bd, l5, rfl, rfl, h5⟩ := lies7.1 h4
  obtain ⟨c, d, rfl⟩ := lies_seq h5 (by decide)
  obtain ⟨q, r, rfl, hq, hr⟩ := lies8.1 h5
  exact ⟨k, n, _, pr, bd, _, _, p, q, r, rfl, rfl, hp, hq, hr⟩

theorem val_in {w : World} {k n : Int} {pa : Code} {pr bd : Int} {sg wt : Code} {p q r : Value} (hp : Lies w pa 3 [p]) (hq : Lies w sg 1 [q]) (hr : Lies w wt 2 [r]) : Lies w (vMk k n pa pr bd sg wt) 0 (vCells k n p pr bd q r) :=
  lies0.2 ⟨k, _, rfl, rfl, lies4.2 ⟨n, _, rfl, rfl, lies5.2 ⟨p, _, rfl, hp, lies6.2 ⟨pr, _, rfl, rfl, lies7.2 ⟨bd, _, rfl, rfl, lies8.2 ⟨q, r, rfl, hq, hr⟩⟩⟩⟩⟩⟩

theorem nil1 {w : World} : Lies w .skip 1 [pN] := ⟨.inl rfl, rfl⟩
theorem nil2 {w : World} : Lies w .skip 2 [pN] := ⟨.inr (.inl rfl), rfl⟩
theorem nil3 {w : World} : Lies w .skip 3 [pN] := ⟨.inr (.inr rfl), rfl⟩

/-- A sight: none, or a block. -/
theorem sg_out {w : World} {c : Code} {x : Value} (h : Lies w c 1 [x]) : (c = .skip ∧ x = pN) ∨ ∃ b l v o nx V po pn g, c = sMk b l v o nx ∧ x = pT g ∧ w.heap[g]? = some (.cells (iV b :: V ++ [iV l, po, pn]).toArray 247 (0, 0)) ∧ Lies w v 0 V ∧ Lies w o 1 [po] ∧ Lies w nx 1 [pn] := by
  rcases lies_ptr h (.inl rfl) with ⟨h1, h2⟩ | ⟨a, b, rfl⟩
  · injection h2 with h2; exact .inl ⟨h1, h2⟩
  right
  obtain ⟨g, E, pn, h0, h1, h2, h3⟩ := lies1.1 h
  injection h0 with h0
  obtain ⟨a, c, rfl⟩ := lies_seq h2 (by decide)
  obtain ⟨k, l', rfl, rfl, h5⟩ := lies9.1 h2
  obtain ⟨a, c, rfl⟩ := lies_seq h5 (by decide)
  obtain ⟨l, V, po, rfl, rfl, h6⟩ := lies10.1 h5
  obtain ⟨a, c, rfl⟩ := lies_seq h6 (by decide)
  obtain ⟨V', po', he, h7, h4⟩ := lies11.1 h6
  obtain ⟨rfl, he2⟩ := List.append_inj' he rfl
  injection he2 with he3
  subst he3
  exact ⟨k, l, a, c, b, V, po, pn, g, rfl, h0, by simpa using h1, h7, h4, h3⟩

theorem sg_in {w : World} {b l : Int} {v o nx : Code} {V : List Value} {po pn : Value} {g : Nat} (h : w.heap[g]? = some (.cells (iV b :: V ++ [iV l, po, pn]).toArray 247 (0, 0))) (hv : Lies w v 0 V) (ho : Lies w o 1 [po]) (hn : Lies w nx 1 [pn]) : Lies w (sMk b l v o nx) 1 [pT g] :=
  lies1.2 ⟨g, iV b :: (V ++ [iV l, po]), pn, rfl, by simpa using h, lies9.2 ⟨b, _, rfl, rfl, lies10.2 ⟨l, V, po, rfl, rfl, lies11.2 ⟨V, po, rfl, hv, ho⟩⟩⟩, hn⟩

/-- What waits: nothing, or a block. -/
theorem wt_out {w : World} {c : Code} {x : Value} (h : Lies w c 2 [x]) : (c = .skip ∧ x = pN) ∨ ∃ i k v s nx V ps pn g, c = wMk i k v s nx ∧ x = pT g ∧ w.heap[g]? = some (.cells (iV i :: ps :: .bool k :: V ++ [pn]).toArray 250 (0, 0)) ∧ Lies w v 0 V ∧ Lies w s 1 [ps] ∧ Lies w nx 2 [pn] := by
  rcases lies_ptr h (.inr (.inl rfl)) with ⟨h1, h2⟩ | ⟨a, b, rfl⟩
  · injection h2 with h2; exact .inl ⟨h1, h2⟩
  right
  obtain ⟨g, E, pn, h0, h1, h2, h3⟩ := lies2.1 h
  injection h0 with h0
  obtain ⟨a, c, rfl⟩ := lies_seq h2 (by decide)
  obtain ⟨i, l', rfl, rfl, h5⟩ := lies12.1 h2
  obtain ⟨a, c, rfl⟩ := lies_seq h5 (by decide)
  obtain ⟨k, ps, V, rfl, rfl, h6⟩ := lies13.1 h5
  obtain ⟨a, c, rfl⟩ := lies_seq h6 (by decide)
  obtain ⟨V', po', he, h7, h4⟩ := lies11.1 h6
  obtain ⟨rfl, he2⟩ := List.append_inj' he rfl
  injection he2 with he3
  subst he3
  exact ⟨i, k, a, c, b, V, ps, pn, g, rfl, h0, by simpa using h1, h7, h4, h3⟩

theorem wt_in {w : World} {i : Int} {k : Bool} {v s nx : Code} {V : List Value} {ps pn : Value} {g : Nat} (h : w.heap[g]? = some (.cells (iV i :: ps :: .bool k :: V ++ [pn]).toArray 250 (0, 0))) (hv : Lies w v 0 V) (hs : Lies w s 1 [ps]) (hn : Lies w nx 2 [pn]) : Lies w (wMk i k v s nx) 2 [pT g] :=
  lies2.2 ⟨g, iV i :: ps :: .bool k :: V, pn, rfl, by simpa using h, lies12.2 ⟨i, _, rfl, rfl, lies13.2 ⟨k, ps, V, rfl, rfl, lies11.2 ⟨V, ps, rfl, hv, hs⟩⟩⟩, hn⟩

/-- The parts of a value: none, or a block. -/
theorem pa_out {w : World} {c : Code} {x : Value} (h : Lies w c 3 [x]) : (c = .skip ∧ x = pN) ∨ ∃ a b A B g, c = cP a b ∧ x = pT g ∧ w.heap[g]? = some (.cells (A ++ B).toArray 328 (0, 0)) ∧ Lies w a 0 A ∧ Lies w b 0 B := by
  rcases lies_ptr h (.inr (.inr rfl)) with ⟨h1, h2⟩ | ⟨a, b, rfl⟩
  · injection h2 with h2; exact .inl ⟨h1, h2⟩
  right
  obtain ⟨g, A, B, h0, h1, h2, h3⟩ := lies3.1 h
  injection h0 with h0
  exact ⟨a, b, A, B, g, rfl, h0, h1, h2, h3⟩

theorem pa_in {w : World} {a b : Code} {A B : List Value} {g : Nat} (h : w.heap[g]? = some (.cells (A ++ B).toArray 328 (0, 0))) (ha : Lies w a 0 A) (hb : Lies w b 0 B) : Lies w (cP a b) 3 [pT g] :=
  lies3.2 ⟨g, A, B, rfl, h, ha, hb⟩
end Go.Proofs.YtklimomeendajaaGreatDoor

/- A machine as it lies. -/
namespace Go.Proofs.YtklimomeendajaaGreatDoor
open Go.RowKit

/-- A program's code, and where it lies. -/
structure MC where
  cb : Nat
  c : CX
  E : Value
  P : Value
  B : Value
  MV : Value
  KV : Value
  cE : List Value
  cK : List Value

abbrev MC.at (K : MC) (w : World) : Prop := CdAt w K.cb K.c K.E K.P K.B K.MV K.KV K.cE K.cK

/-- The code's blocks. -/
def cown (K : MC) (b : Nat) : Prop := b = K.cb ∨ (K.E.ownBlock = some b ∨ K.P.ownBlock = some b ∨ K.B.ownBlock = some b ∨ Refs K.cE b) ∨ K.MV.ownBlock = some b ∨ K.KV.ownBlock = some b ∨ ∃ v, v ∈ K.cK ∧ v.ownBlock = some b

theorem MC.at.keep {K : MC} {w w' : World} (h : K.at w) (hb : ∀ b, cown K b → w'.heap[b]? = w.heap[b]?) : K.at w' :=
  ⟨(hb _ (.inl rfl)).trans h.blk, h.tr.keep fun b hh => hb b (.inr (.inl hh)), ownsRow_block h.m fun b hh => hb b (.inr (.inr (.inl hh))), ownsRow_block h.k fun b hh => hb b (.inr (.inr (.inr (.inl hh)))), h.kAt.keep fun v b hv hh => hb b (.inr (.inr (.inr (.inr ⟨v, hv, hh⟩)))), h.ne, h.nb⟩

theorem MC.at.lt {K : MC} {w : World} (h : K.at w) : ∀ b, cown K b → b < w.heap.size := by
  rintro b (rfl | hb | hb | hb | ⟨v, hv, hb⟩)
  · exact blk_lt h.blk
  · exact h.tr.lt b hb
  · exact (h.m.lt b hb).2
  · exact (h.k.lt b hb).2
  · exact (h.kAt.lt v b hv hb).2

/-- The numbers that were not read yet. -/
def InAt (w : World) (iv : Value) (l : List Int) : Prop :=
  (l = [] ∧ ∃ a cap, iv = .slice a 0 cap) ∨ ∃ g off cap cur, iv = .slice (some ⟨g, off, none⟩) l.length cap ∧ w.heap[g]? = some (.cells cur 3 (0, 0)) ∧ l.length ≤ cap ∧ ∀ i v, l[i]? = some v → cur[off + i]? = some (iV v)

theorem InAt.keep {w w' : World} {iv : Value} {l : List Int} (h : InAt w iv l) (hb : l ≠ [] → ∀ (b : Nat) cur, iv.ownBlock = some b → w.heap[b]? = some (.cells cur 3 (0, 0)) → w'.heap[b]? = w.heap[b]?) : InAt w' iv l := by
  by_cases hl : l = []
  · left
    refine ⟨hl, ?_⟩
    rcases h with h | ⟨g, off, cap, cur, h1, h2, h3⟩
    · exact h.2
    · exact ⟨_, _, by rw [h1, hl]; rfl⟩
  · rcases h with h | ⟨g, off, cap, cur, h1, h2, h3⟩
    · exact absurd h.1 hl
    · exact .inr ⟨g, off, cap, cur, h1, (hb hl g cur (by rw [h1]; rfl) h2).trans h2, h3⟩

/-- The table that strconv reads. -/
def TB (w : World) : Prop := Lib.TabIs Tryz.prog w "internal/strconv.uint64pow10" .u64 Lib.pow10Tab
theorem gpow : Tryz.prog.globalNamed "internal/strconv.uint64pow10" = some 2 := by kernel_rfl
theorem TB.keep {w w' : World} (h : TB w) (hb : w'.heap[2]? = w.heap[2]?) : TB w' := by
  unfold TB Lib.TabIs World.var? at h ⊢
  rw [gpow] at h ⊢
  simp only [Option.bind_some] at h ⊢
  rw [hb]
  exact h
theorem TB.lt {w : World} (h : TB w) : 2 < w.heap.size := by
  unfold TB Lib.TabIs World.var? at h
  rw [gpow] at h
  simp only [Option.bind_some] at h
  by_cases hl : 2 < w.heap.size
  · exact hl
  · rw [Array.getElem?_eq_none (by omega)] at h
    cases h
theorem TB.fr {w w' : World} {O : Nat → Prop} (h : TB w) (hF : Fr O w w') (hO : ∀ b, O b → 3 ≤ b) : TB w' :=
  h.keep (hF.block 2 h.lt (fun e => by have := hO 2 e; omega))

/-- The values of a machine's fields, as far as they are not plain. -/
structure MD where
  iv : Value
  sp : Value
  V : List Value
  wp : Value
  pv : Value

def mCells (K : MC) (m : MX) (D : MD) : List Value := [pT K.cb, D.iv, .bool m.lk, iV m.ex, D.sp] ++ D.V ++ [D.wp, iV m.st, .string (bz m.tx), D.pv, iV m.jm]

structure Mc (K : MC) (M : Nat) (w : World) (m : MX) (D : MD) : Prop where
  blk : w.heap[M]? = some (.cells (mCells K m D).toArray 198 (0, 0))
  cd : K.at w
  old : ∀ b, cown K b → b < M
  inp : InAt w D.iv m.inp
  sg : Lies w m.sg 1 [D.sp]
  val : Lies w m.val 0 D.V
  wt : Lies w m.wt 2 [D.wp]
  pr : w.ownsRow (M + 1) 3 1 D.pv m.pr.length (m.pr.map (.int .i64))
  ip : m.inp ≠ [] → ∀ b, D.iv.ownBlock = some b → D.pv.ownBlock ≠ some b
  tb : TB w
  three : 3 ≤ M

section
variable {K : MC} {M : Nat} {w w' : World} {m m' : MX} {D D' : MD}

theorem not_vTy {b : Nat} {cur cur' : Array Value} {ty ty' : TypeId} (h : w.heap[b]? = some (.cells cur ty (0, 0))) (h' : w.heap[b]? = some (.cells cur' ty' (0, 0))) (hn : ¬ vTy ty) : ¬ vTy ty' := by
  rw [h] at h'
  injection h' with h'
  injection h' with _ h' _
  rw [← h']
  exact hn

theorem ty_eq {b : Nat} {cur cur' : Array Value} {ty ty' : TypeId} (h : w.heap[b]? = some (.cells cur ty (0, 0))) (h' : w.heap[b]? = some (.cells cur' ty' (0, 0))) : ty = ty' := by
  rw [h] at h'
  injection h' with h'
  injection h' with _ h' _

theorem vTy_mach : ¬ vTy 198 := by unfold vTy; decide
theorem vTy_int : ¬ vTy 3 := by unfold vTy; decide

/-- A row's block. -/
theorem row_blk {base e z n : Nat} {v : Value} {xs : List Value} (h : w.ownsRow base e z v n xs) {b : Nat} (hb : v.ownBlock = some b) : ∃ cur, w.heap[b]? = some (.cells cur e (0, 0)) := by
  rcases h.2 with ⟨rfl, _⟩ | ⟨g, cap, cur, rfl, _, hg, _⟩
  · cases hb
  · cases hb; exact ⟨cur, hg⟩

/-- What a step of the machine may write: the machine, and the row of what was printed. -/
def mown (M : Nat) (D : MD) (b : Nat) : Prop := b = M ∨ D.pv.ownBlock = some b

theorem Mc.kp (h : Mc K M w m D) (hF : Fr (mown M D) w w') : Kp w w' := hF.kp fun b cur ty hb hg => by
  rcases hb with rfl | hb
  · exact not_vTy h.blk hg vTy_mach
  · obtain ⟨c, hc⟩ := row_blk h.pr hb
    exact not_vTy hc hg vTy_int

/-- A step that writes into the machine alone. -/
theorem Mc.upd (h : Mc K M w m D) (hF : Fr (fun b => b = M) w w') (hb : w'.heap[M]? = some (.cells (mCells K m' D').toArray 198 (0, 0))) (hP : D'.pv = D.pv) (hpr : m'.pr = m.pr) (hI : InAt w D'.iv m'.inp) (hIP : m'.inp ≠ [] → ∀ b, D'.iv.ownBlock = some b → D.pv.ownBlock ≠ some b)
    (hs : Lies w' m'.sg 1 [D'.sp]) (hv : Lies w' m'.val 0 D'.V) (hw : Lies w' m'.wt 2 [D'.wp]) : Mc K M w' m' D' := by
  refine ⟨hb, h.cd.keep fun b hc => hF.block b (h.cd.lt b hc) (fun e => by have := h.old b hc; omega), h.old, hI.keep fun _ b cur hbi hg => hF.block b (blk_lt hg) (fun e => ?_), hs, hv, hw, ?_, by rw [hP]; exact hIP, h.tb.fr hF (fun b hb => by have := h.three; omega), h.three⟩
  · subst e
    have := ty_eq hg h.blk
    revert this
    decide
  · rw [hP, hpr]
    exact rowKeep hF h.pr fun b hb e => by have := (h.pr.lt b hb).1; omega

/-- A quiet step. -/
theorem Mc.fr (h : Mc K M w m D) (hF : Fr (fun _ => False) w w') : Mc K M w' m D := by
  have hk : Kp w w' := hF.kp fun _ _ _ h => h.elim
  exact ⟨(hF.block _ (blk_lt h.blk) id).trans h.blk, h.cd.keep fun b hc => hF.block b (h.cd.lt b hc) id, h.old, h.inp.keep fun _ b cur _ hg => hF.block b (blk_lt hg) id, h.sg.keep hk, h.val.keep hk, h.wt.keep hk, rowKeep hF h.pr (fun _ _ h => h), h.ip, h.tb.fr hF (fun _ h => h.elim), h.three⟩

/-- What became of the machine since a call began. -/
def Mn (K : MC) (M : Nat) (w : World) (D : MD) (w' : World) (m' : MX) : Prop :=
  ∃ D', Mc K M w' m' D' ∧ Fr (mown M D) w w' ∧ ∀ b, D'.pv.ownBlock = some b → D.pv.ownBlock = some b ∨ w.heap.size ≤ b

theorem Mn.pre {w0 : World} (hF : Fr (fun _ => False) w0 w) (h : Mn K M w D w' m') : Mn K M w0 D w' m' := by
  obtain ⟨D', h1, h2, h3⟩ := h
  refine ⟨D', h1, (hF.mono (fun _ h => h.elim)).trans h2 (fun b hb => .inl hb), fun b hb => ?_⟩
  rcases h3 b hb with h | h
  · exact .inl h
  · have := hF.size; exact .inr (by omega)

theorem Mn.of (h : Mc K M w' m' D') (hF : Fr (fun b => b = M) w w') (hP : D'.pv = D.pv) : Mn K M w D w' m' :=
  ⟨D', h, hF.mono (fun b hb => .inl (.inl hb)), fun b hb => .inl (by rw [← hP]; exact hb)⟩

/-- A step behind one that wrote into the machine alone. -/
theorem Mn.step {w1 : World} {D1 : MD} (hF : Fr (fun b => b = M) w w1) (hP : D1.pv = D.pv) (h : Mn K M w1 D1 w' m') : Mn K M w D w' m' := by
  obtain ⟨D', h1, h2, h3⟩ := h
  refine ⟨D', h1, Fr.trans (O := mown M D) (hF.mono (fun b hb => .inl (.inl hb))) h2 (fun b hb => .inl (by rcases hb with hb | hb; exact .inl hb; exact .inr (by rw [← hP]; exact hb))), fun b hb => ?_⟩
  rcases h3 b hb with h | h
  · exact .inl (by rw [← hP]; exact h)
  · have := hF.size; exact .inr (by omega)

/-- The machine's cells, one by one. -/
theorem Mc.cells (h : Mc K M w m D) : ∃ k n p pr bd q r, D.V = vCells k n p pr bd q r ∧ w.heap[M]? = some (.cells #[pT K.cb, D.iv, .bool m.lk, iV m.ex, D.sp, iV k, iV n, p, iV pr, iV bd, q, r, D.wp, iV m.st, .string (bz m.tx), D.pv, iV m.jm] 198 (0, 0)) := by
  obtain ⟨k, n, pa, pr, bd, sg, wt, p, q, r, h1, h2, -⟩ := val_out h.val
  refine ⟨k, n, p, pr, bd, q, r, h2, ?_⟩
  have := h.blk
  unfold mCells at this
  rw [h2] at this
  exact this

theorem mc17 {l : Nat} {a0 a1 a2 a3 a4 a5 a6 a7 a8 a9 a10 a11 a12 a13 a14 a15 a16 : Value} {t : TypeId} (h : w.heap[l]? = some (.cells #[a0, a1, a2, a3, a4, a5, a6, a7, a8, a9, a10, a11, a12, a13, a14, a15, a16] t (0, 0))) :
    (w.cell? ⟨l, 0, none⟩ = some a0 ∧ w.cell? ⟨l, 1, none⟩ = some a1 ∧ w.cell? ⟨l, 2, none⟩ = some a2 ∧ w.cell? ⟨l, 3, none⟩ = some a3 ∧ w.cell? ⟨l, 4, none⟩ = some a4 ∧ w.cell? ⟨l, 5, none⟩ = some a5 ∧ w.cell? ⟨l, 6, none⟩ = some a6 ∧ w.cell? ⟨l, 7, none⟩ = some a7 ∧ w.cell? ⟨l, 8, none⟩ = some a8 ∧ w.cell? ⟨l, 9, none⟩ = some a9 ∧ w.cell? ⟨l, 10, none⟩ = some a10 ∧ w.cell? ⟨l, 11, none⟩ = some a11 ∧ w.cell? ⟨l, 12, none⟩ = some a12 ∧ w.cell? ⟨l, 13, none⟩ = some a13 ∧ w.cell? ⟨l, 14, none⟩ = some a14 ∧ w.cell? ⟨l, 15, none⟩ = some a15 ∧ w.cell? ⟨l, 16, none⟩ = some a16) ∧ ∀ i, w.frozen? ⟨l, i, none⟩ = false := by
  simp [World.cell?, World.frozen?, h]
end
end Go.Proofs.YtklimomeendajaaGreatDoor

/- machine: lookAt, end, goOn's second half. -/
namespace Go.Proofs.YtklimomeendajaaGreatDoor
open Go.RowKit

theorem ptr_of {w : World} {c : Code} {i : Nat} {x : Value} (h : Lies w c i [x]) (hi : i = 1 ∨ i = 2 ∨ i = 3) : ∃ o, x = .pointer o := by
  rcases hi with rfl | rfl | rfl
  · rcases sg_out h with ⟨_, rfl⟩ | ⟨_, _, _, _, _, _, _, _, g, _, rfl, _⟩
    · exact ⟨_, rfl⟩
    · exact ⟨_, rfl⟩
  · rcases wt_out h with ⟨_, rfl⟩ | ⟨_, _, _, _, _, _, _, _, g, _, rfl, _⟩
    · exact ⟨_, rfl⟩
    · exact ⟨_, rfl⟩
  · rcases pa_out h with ⟨_, rfl⟩ | ⟨_, _, _, _, g, _, rfl, _⟩
    · exact ⟨_, rfl⟩
    · exact ⟨_, rfl⟩

theorem val_ptrs {w : World} {c : Code} {k n : Int} {p : Value} {pr bd : Int} {q r : Value} (h : Lies w c 0 (vCells k n p pr bd q r)) : (∃ o, p = .pointer o) ∧ (∃ o, q = .pointer o) ∧ ∃ o, r = .pointer o := by
  obtain ⟨k', n', pa, pr', bd', sg, wt, p', q', r', -, he, hp, hq, hr⟩ := val_out h
  simp only [vCells, List.cons.injEq, and_true] at he
  obtain ⟨-, -, rfl, -, -, rfl, rfl⟩ := he
  exact ⟨ptr_of hp (.inr (.inr rfl)), ptr_of hq (.inl rfl), ptr_of hr (.inr (.inl rfl))⟩

section
variable {K : MC} {M : Nat} {w w' : World} {m m' : MX} {D D' : MD}

theorem Mc.kpM (h : Mc K M w m D) (hF : Fr (fun b => b = M) w w') : Kp w w' := h.kp (hF.mono (fun _ hb => .inl (.inl hb)))

set_option maxHeartbeats 800000 in
theorem lookAt_c (h : Mc K M w m D) {i : Int} {sg : Code} {x : Value} (hs : Lies w sg 1 [x]) :
    Calls Tryz.prog 147 #[pT M, iV i, x] w fun e w' => e = .returned (.tuple #[]) ∧ Mn K M w D w' (kLook m i sg) := by
  obtain ⟨o, rfl⟩ := ptr_of hs (.inl rfl)
  have HS : Hid (Lies w sg 1 [.pointer o]) := hs
  clear hs
  obtain ⟨k, n, p, pr, bd, q, r, hV, hb⟩ := h.cells
  obtain ⟨⟨c0, c1, c2, c3, c4, c5, c6, c7, c8, c9, c10, c11, c12, c13, c14, c15, c16⟩, hf⟩ := mc17 hb
  have f1 := hf 1; have f2 := hf 2; have f3 := hf 3; have f4 := hf 4; have f5 := hf 5; have f6 := hf 6; have f7 := hf 7; have f8 := hf 8; have f9 := hf 9; have f10 := hf 10; have f11 := hf 11; have f12 := hf 12; have f13 := hf 13; have f14 := hf 14; have f15 := hf 15; have f16 := hf 16
  have hl := blk_lt hb
  have H : Hid (Mc K M w m D) := h
  have HB : Hid (w.heap[M]? = some (.cells #[pT K.cb, D.iv, .bool m.lk, iV m.ex, D.sp, iV k, iV n, p, iV pr, iV bd, q, r, D.wp, iV m.st, .string (bz m.tx), D.pv, iV m.jm] 198 (0, 0))) := hb
  have HV : Hid (D.V = vCells k n p pr bd q r) := hV
  clear h hb hf hV
  go_enter Tryz.func147, Tryz.ntmps147
  go_wp2_with fail
  (first | go_end0 | ((try simp only [Exit.inBlock, Exit.then]); refine bodyPost_ret (results_none rfl _ _ _) rfl ?_))
  have hF : Fr (fun b => b = M) w (((w.setCell ⟨M, 2, none⟩ (.bool true)).setCell ⟨M, 3, none⟩ (iV i)).setCell ⟨M, 4, none⟩ (.pointer o)) := (by repeat (first | with_reducible exact Fr.refl _ _ | (with_reducible refine Fr.drew ?_) | (with_reducible refine Fr.drewN ?_ _) | (with_reducible refine Fr.alloc ?_ _) | ((with_reducible refine Fr.setCell ?_ ?_ _); rotate_left; first | exact .inl rfl | exact .inr (Nat.le_refl _) | exact .inl (Nat.le_refl _) | (focus (left; simp; done)) | (focus (left; simp; omega)) | (focus (left; omega)) | (focus (right; simp; done)) | (focus (right; simp; omega)) | (focus (right; omega))) | exact Fr.refl _ _))
  have hk := H.out.kpM hF
  exact ⟨rfl, .of (D' := { D with sp := .pointer o }) (H.out.upd hF (by unfold mCells; simp only [HV.out]; exact (blk_set (blk_set (blk_set HB.out rfl) rfl) rfl)) rfl rfl H.out.inp H.out.ip (HS.out.keep hk) (H.out.val.keep hk) (H.out.wt.keep hk)) hF rfl⟩

theorem v0_lies : Lies w v0 0 (vCells 0 0 pN 0 0 pN pN) := val_in nil3 nil1 nil2

set_option maxHeartbeats 1600000 in
theorem end_c (h : Mc K M w m D) {st : Int} {tx : List UInt8} :
    Calls Tryz.prog 210 #[pT M, iV st, .string (bz tx)] w fun e w' => e = .returned (.tuple #[]) ∧ Mn K M w D w' (kEnd m st tx) := by
  obtain ⟨k, n, p, pr, bd, q, r, hV, hb⟩ := h.cells
  obtain ⟨⟨c0, c1, c2, c3, c4, c5, c6, c7, c8, c9, c10, c11, c12, c13, c14, c15, c16⟩, hf⟩ := mc17 hb
  have f1 := hf 1; have f2 := hf 2; have f3 := hf 3; have f4 := hf 4; have f5 := hf 5; have f6 := hf 6; have f7 := hf 7; have f8 := hf 8; have f9 := hf 9; have f10 := hf 10; have f11 := hf 11; have f12 := hf 12; have f13 := hf 13; have f14 := hf 14; have f15 := hf 15; have f16 := hf 16
  have hl := blk_lt hb
  have H : Hid (Mc K M w m D) := h
  have HB : Hid (w.heap[M]? = some (.cells #[pT K.cb, D.iv, .bool m.lk, iV m.ex, D.sp, iV k, iV n, p, iV pr, iV bd, q, r, D.wp, iV m.st, .string (bz m.tx), D.pv, iV m.jm] 198 (0, 0))) := hb
  have HV : Hid (D.V = vCells k n p pr bd q r) := hV
  clear h hb hf hV
  go_enter Tryz.func210, Tryz.ntmps210
  go_wp2_with fail
  (first | go_end0 | ((try simp only [Exit.inBlock, Exit.then]); refine bodyPost_ret (results_none rfl _ _ _) rfl ?_))
  have g0 := blk_set (i := 13) (v := iV st) (c' := #[pT K.cb, D.iv, .bool m.lk, iV m.ex, D.sp, iV k, iV n, p, iV pr, iV bd, q, r, D.wp, iV st, .string (bz m.tx), D.pv, iV m.jm]) HB.out rfl
  have g1 := blk_set (i := 14) (v := .string (bz tx)) (c' := #[pT K.cb, D.iv, .bool m.lk, iV m.ex, D.sp, iV k, iV n, p, iV pr, iV bd, q, r, D.wp, iV st, .string (bz tx), D.pv, iV m.jm]) g0 rfl
  have g2 := blk_set (i := 1) (v := .slice none 0 0) (c' := #[pT K.cb, .slice none 0 0, .bool m.lk, iV m.ex, D.sp, iV k, iV n, p, iV pr, iV bd, q, r, D.wp, iV st, .string (bz tx), D.pv, iV m.jm]) g1 rfl
  have g3 := blk_set (i := 4) (v := pN) (c' := #[pT K.cb, .slice none 0 0, .bool m.lk, iV m.ex, pN, iV k, iV n, p, iV pr, iV bd, q, r, D.wp, iV st, .string (bz tx), D.pv, iV m.jm]) g2 rfl
  have g4 := blk_set (i := 5) (v := iV 0) (c' := #[pT K.cb, .slice none 0 0, .bool m.lk, iV m.ex, pN, iV 0, iV n, p, iV pr, iV bd, q, r, D.wp, iV st, .string (bz tx), D.pv, iV m.jm]) g3 rfl
  have g5 := blk_set (i := 6) (v := iV 0) (c' := #[pT K.cb, .slice none 0 0, .bool m.lk, iV m.ex, pN, iV 0, iV 0, p, iV pr, iV bd, q, r, D.wp, iV st, .string (bz tx), D.pv, iV m.jm]) g4 rfl
  have g6 := blk_set (i := 7) (v := pN) (c' := #[pT K.cb, .slice none 0 0, .bool m.lk, iV m.ex, pN, iV 0, iV 0, pN, iV pr, iV bd, q, r, D.wp, iV st, .string (bz tx), D.pv, iV m.jm]) g5 rfl
  have g7 := blk_set (i := 8) (v := iV 0) (c' := #[pT K.cb, .slice none 0 0, .bool m.lk, iV m.ex, pN, iV 0, iV 0, pN, iV 0, iV bd, q, r, D.wp, iV st, .string (bz tx), D.pv, iV m.jm]) g6 rfl
  have g8 := blk_set (i := 9) (v := iV 0) (c' := #[pT K.cb, .slice none 0 0, .bool m.lk, iV m.ex, pN, iV 0, iV 0, pN, iV 0, iV 0, q, r, D.wp, iV st, .string (bz tx), D.pv, iV m.jm]) g7 rfl
  have g9 := blk_set (i := 10) (v := pN) (c' := #[pT K.cb, .slice none 0 0, .bool m.lk, iV m.ex, pN, iV 0, iV 0, pN, iV 0, iV 0, pN, r, D.wp, iV st, .string (bz tx), D.pv, iV m.jm]) g8 rfl
  have g10 := blk_set (i := 11) (v := pN) (c' := #[pT K.cb, .slice none 0 0, .bool m.lk, iV m.ex, pN, iV 0, iV 0, pN, iV 0, iV 0, pN, pN, D.wp, iV st, .string (bz tx), D.pv, iV m.jm]) g9 rfl
  have gB := blk_set (i := 12) (v := pN) (c' := #[pT K.cb, .slice none 0 0, .bool m.lk, iV m.ex, pN, iV 0, iV 0, pN, iV 0, iV 0, pN, pN, pN, iV st, .string (bz tx), D.pv, iV m.jm]) g10 rfl
  have hF : Fr (fun b => b = M) w ((((((((((((w.setCell ⟨M, 13, none⟩ (iV st)).setCell ⟨M, 14, none⟩ (.string (bz tx))).setCell ⟨M, 1, none⟩ (.slice none 0 0)).setCell ⟨M, 4, none⟩ (pN)).setCell ⟨M, 5, none⟩ (iV 0)).setCell ⟨M, 6, none⟩ (iV 0)).setCell ⟨M, 7, none⟩ (pN)).setCell ⟨M, 8, none⟩ (iV 0)).setCell ⟨M, 9, none⟩ (iV 0)).setCell ⟨M, 10, none⟩ (pN)).setCell ⟨M, 11, none⟩ (pN)).setCell ⟨M, 12, none⟩ (pN)) := (by repeat (first | with_reducible exact Fr.refl _ _ | (with_reducible refine Fr.drew ?_) | (with_reducible refine Fr.drewN ?_ _) | (with_reducible refine Fr.alloc ?_ _) | ((with_reducible refine Fr.setCell ?_ ?_ _); rotate_left; first | exact .inl rfl | exact .inr (Nat.le_refl _) | exact .inl (Nat.le_refl _) | (focus (left; simp; done)) | (focus (left; simp; omega)) | (focus (left; omega)) | (focus (right; simp; done)) | (focus (right; simp; omega)) | (focus (right; omega))) | exact Fr.refl _ _))
  have hk := H.out.kpM hF
  exact ⟨rfl, .of (D' := ⟨.slice none 0 0, pN, vCells 0 0 pN 0 0 pN pN, pN, D.pv⟩) (H.out.upd hF gB rfl rfl (.inl ⟨rfl, _, _, rfl⟩) (fun h => absurd rfl h) nil1 v0_lies nil2) hF rfl⟩
end
end Go.Proofs.YtklimomeendajaaGreatDoor
