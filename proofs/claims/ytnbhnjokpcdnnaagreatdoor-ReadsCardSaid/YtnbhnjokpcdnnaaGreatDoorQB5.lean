import Derived.Test.YtnbhnjokpcdnnaaGreatDoorQA3
import Derived.Test.YtnbhnjokpcdnnaaGreatDoorQB4
import Derived.Deep.LoopGhost
set_option linter.unusedSimpArgs false
set_option linter.unusedVariables false

namespace Go.Proofs.YtnbhnjokpcdnnaaGreatDoor
open Go.RowKit

/-- A tree, as it lies: in blocks that X does not hold. The first: of a node; the second: of a list, the pointers. -/
def Rp (w : World) (X : Nat → Prop) : Code → (Value → Prop) × (List Value → Prop)
  | .cond (.const (.tuple l)) subs pats => (fun p => ∃ b k n nm ow vs vp cs cp, p = .pointer (some ⟨b, 0, none⟩) ∧ ¬ X b ∧ l = #[k, n, nm, ow] ∧ w.heap[b]? = some (.cells #[k, n, nm, ow, vs, vp] 70 (0, 0)) ∧
      w.ownsRow 0 26 1 vs cs.length cs ∧ (∀ b, vs.ownBlock = some b → ¬ X b) ∧ (Rp w X subs).2 cs ∧ w.ownsRow 0 26 1 vp cp.length cp ∧ (∀ b, vp.ownBlock = some b → ¬ X b) ∧ (Rp w X pats).2 cp, fun _ => False)
  | .seq a l => (fun _ => False, fun vs => ∃ v vs', vs = v :: vs' ∧ (Rp w X a).1 v ∧ (Rp w X l).2 vs')
  | .skip => (fun _ => False, fun vs => vs = [])
  | _ => (fun _ => False, fun _ => False)

theorem Rp_fr {w w' : World} {X : Nat → Prop} (hF : Fr X w w') : ∀ t : Code, (∀ p, (Rp w X t).1 p → (Rp w' X t).1 p) ∧ (∀ l, (Rp w X t).2 l → (Rp w' X t).2 l) := by
  intro t
  induction t with
  | cond c a b iha ihb =>
    cases c with
    | const v =>
      cases v with
      | tuple l =>
        refine ⟨?_, fun _ h => h⟩
        rintro p ⟨b0, k, n, nm, ow, vs, vp, cs, cp, h1, h2, h3, h4, h5, h6, h7, h8, h9, h10⟩
        exact ⟨b0, k, n, nm, ow, vs, vp, cs, cp, h1, h2, h3, (hF.block b0 (Array.getElem?_eq_some_iff.1 h4).1 h2).trans h4, ownsRow_block h5 fun b hb => hF.block b (h5.lt b hb).2 (h6 b hb), h6, iha.2 _ h7, ownsRow_block h8 fun b hb => hF.block b (h8.lt b hb).2 (h9 b hb), h9, ihb.2 _ h10⟩
      | _ => exact ⟨fun _ h => h, fun _ h => h⟩
    | _ => exact ⟨fun _ h => h, fun _ h => h⟩
  | seq a l iha ihl =>
    refine ⟨fun _ h => h, ?_⟩
    rintro vs ⟨v, vs', h1, h2, h3⟩
    exact ⟨v, vs', h1, iha.1 _ h2, ihl.2 _ h3⟩
  | skip => exact ⟨fun _ h => h, fun _ h => h⟩
  | _ => exact ⟨fun _ h => h, fun _ h => h⟩

/-- A tree behind a pointer. -/
def Nd (w : World) (X : Nat → Prop) (t : Code) (p : Value) : Prop := (Rp w X t).1 p
/-- Trees behind pointers. -/
def Nds (w : World) (X : Nat → Prop) (l : List Code) (vs : List Value) : Prop := (Rp w X (toC l)).2 vs

section
variable {w w' : World} {X : Nat → Prop}

theorem Nd.fr {t : Code} {p : Value} (h : Nd w X t p) (hF : Fr X w w') : Nd w' X t p := (Rp_fr hF t).1 p h
theorem Nds.fr {l : List Code} {vs : List Value} (h : Nds w X l vs) (hF : Fr X w w') : Nds w' X l vs := (Rp_fr hF (toC l)).2 vs h

theorem Nds.nil : Nds w X [] [] := rfl
theorem Nds.cons {a : Code} {l : List Code} {v : Value} {vs : List Value} (h1 : Nd w X a v) (h2 : Nds w X l vs) : Nds w X (a :: l) (v :: vs) := ⟨v, vs, rfl, h1, h2⟩
theorem Nds.append : ∀ {l m : List Code} {vs us : List Value}, Nds w X l vs → Nds w X m us → Nds w X (l ++ m) (vs ++ us)
  | [], _, vs, _, h1, h2 => by
    have h : vs = [] := h1
    subst h
    exact h2
  | a :: l, _, _, _, ⟨v, vs', h1, h2, h3⟩, h4 => by
    subst h1
    exact ⟨v, vs' ++ _, rfl, h2, Nds.append (l := l) h3 h4⟩

theorem Nds.len : ∀ {l : List Code} {vs : List Value}, Nds w X l vs → vs.length = l.length
  | [], vs, h => by
    have h' : vs = [] := h
    subst h'
    rfl
  | a :: l, _, ⟨v, vs', h1, h2, h3⟩ => by
    subst h1
    simp [Nds.len (l := l) h3]

theorem Nd.mk {k : List UInt8} {n : Int} {nm ow : List UInt8} {subs pats : List Code} {b : Nat} {vs vp : Value} {cs cp : List Value} (h2 : ¬ X b) (h4 : w.heap[b]? = some (.cells #[.string (bs k), .int .i64 n, .string (bs nm), .string (bs ow), vs, vp] 70 (0, 0)))
    (h5 : w.ownsRow 0 26 1 vs cs.length cs) (h6 : ∀ b, vs.ownBlock = some b → ¬ X b) (h7 : Nds w X subs cs) (h8 : w.ownsRow 0 26 1 vp cp.length cp) (h9 : ∀ b, vp.ownBlock = some b → ¬ X b) (h10 : Nds w X pats cp) :
    Nd w X (nd k n nm ow subs pats) (.pointer (some ⟨b, 0, none⟩)) := ⟨b, _, _, _, _, vs, vp, cs, cp, rfl, h2, rfl, h4, h5, h6, h7, h8, h9, h10⟩

/-- A node, taken apart. -/
theorem Nd.open {k : List UInt8} {n : Int} {nm ow : List UInt8} {subs pats : List Code} {p : Value} (h : Nd w X (nd k n nm ow subs pats) p) :
    ∃ b vs vp cs cp, p = .pointer (some ⟨b, 0, none⟩) ∧ ¬ X b ∧ w.heap[b]? = some (.cells #[.string (bs k), .int .i64 n, .string (bs nm), .string (bs ow), vs, vp] 70 (0, 0)) ∧
      w.ownsRow 0 26 1 vs cs.length cs ∧ (∀ b, vs.ownBlock = some b → ¬ X b) ∧ Nds w X subs cs ∧ w.ownsRow 0 26 1 vp cp.length cp ∧ (∀ b, vp.ownBlock = some b → ¬ X b) ∧ Nds w X pats cp := by
  obtain ⟨b, k', n', nm', ow', vs, vp, cs, cp, h1, h2, h3, h4, h5, h6, h7, h8, h9, h10⟩ := h
  simp only [Array.mk.injEq, List.cons.injEq, and_true] at h3
  obtain ⟨rfl, rfl, rfl, rfl⟩ := h3
  exact ⟨b, vs, vp, cs, cp, h1, h2, h4, h5, h6, h7, h8, h9, h10⟩
end

/-- What a pointer says of a stretch: nil where it is nothing. -/
def Ans (ws : List RW) (k i j : Nat) (w : World) (X : Nat → Prop) (p : Value) : Prop :=
  (p = .pointer none ∧ ∀ t, ¬ Dv ws k i j t) ∨ ∃ t, Dv ws k i j t ∧ Nd w X t p

theorem Nd.ptr {w : World} {X : Nat → Prop} : ∀ {t : Code} {p : Value}, Nd w X t p → ∃ b, p = .pointer (some ⟨b, 0, none⟩) ∧ ¬ X b ∧ b < w.heap.size
  | .cond (.const (.tuple _)) _ _, _, ⟨b, _, _, _, _, _, _, _, _, h1, h2, _, h4, _⟩ => ⟨b, h1, h2, (Array.getElem?_eq_some_iff.1 h4).1⟩

end Go.Proofs.YtnbhnjokpcdnnaaGreatDoor

namespace Go.Proofs.YtnbhnjokpcdnnaaGreatDoor
open Go.RowKit

theorem rwCells_len (l : List RW) : (rwCells l).length = l.length * 3 := by
  induction l with
  | nil => rfl
  | cons a l ih => simp [rwCells] at ih ⊢; omega

theorem rwCells_at : ∀ (l : List RW) (i : Nat), i < l.length → (rwCells l)[i * 3]? = some (.string (bs (wAt l i).text)) ∧ (rwCells l)[i * 3 + 1]? = some (.int .i64 (wAt l i).num) ∧ (rwCells l)[i * 3 + 2]? = some (.bool (wAt l i).isName)
  | [], _, h => by cases h
  | a :: l, 0, _ => by simp [rwCells, wAt]
  | a :: l, i + 1, h => by
    have := rwCells_at l i (by simpa using h)
    have e : rwCells (a :: l) = .string (bs a.text) :: .int .i64 a.num :: .bool a.isName :: rwCells l := by simp [rwCells]
    rw [e, show (i + 1) * 3 = i * 3 + 3 by omega]
    simpa [wAt] using this

/-- The blocks that no tree lies in: the table's, 'none', and those of Z. -/
def cX (mb nb : Nat) (Z : Nat → Prop) (b : Nat) : Prop := b = mb ∨ b = nb ∨ Z b

/-- How many cells the table has. -/
def tabN (n : Nat) : Nat := 11 * ((n + 1) * (n + 1))
def tabAt (n k i j : Nat) : Nat := (k * (n + 1) + i) * (n + 1) + j

/-- What a cell of the table says. -/
def CellOk (ws : List RW) (w : World) (mb nb : Nat) (Z : Nat → Prop) (k i j : Nat) (v : Value) : Prop :=
  v = .pointer none ∨ (v = .pointer (some ⟨nb, 0, none⟩) ∧ ∀ t, ¬ Dv ws k i j t) ∨ ∃ t, Dv ws k i j t ∧ Nd w (cX mb nb Z) t v

structure Cut (c : Nat) (ws : List RW) (W : Value) (mb cap nb : Nat) (Z : Nat → Prop) (w : World) : Prop where
  blk : w.heap[c]? = some (.cells #[W, .int .i64 ws.length, .slice (some ⟨mb, 0, none⟩) (tabN ws.length) cap, .pointer (some ⟨nb, 0, none⟩)] 72 (0, 0))
  row : w.ownsRow 0 65 3 W ws.length (rwCells ws)
  wm : W.ownBlock ≠ some mb
  cm : c ≠ mb
  nm : nb ≠ mb
  nbk : ∃ ca ta, w.heap[nb]? = some (.cells ca ta (0, 0))
  memo : ∃ M, w.ownsRow 0 26 1 (.slice (some ⟨mb, 0, none⟩) (tabN ws.length) cap) (tabN ws.length) M ∧
    ∀ k i j, k ≤ 10 → i ≤ ws.length → j ≤ ws.length → ∃ v, M[tabAt ws.length k i j]? = some v ∧ CellOk ws w mb nb Z k i j v
  len : ws.length ≤ 240
  zlt : ∀ b, Z b → b < w.heap.size

/-- A step of the cutter: only the table is written. -/
def Cs (c : Nat) (ws : List RW) (W : Value) (mb cap nb : Nat) (Z : Nat → Prop) (w w' : World) : Prop := Cut c ws W mb cap nb Z w' ∧ Fr (fun b => b = mb) w w'

section
variable {c : Nat} {ws : List RW} {W : Value} {mb cap nb : Nat} {Z : Nat → Prop} {w w' w'' : World}

theorem CellOk.fr {k i j : Nat} {v : Value} (h : CellOk ws w mb nb Z k i j v) (hF : Fr (fun b => b = mb) w w') : CellOk ws w' mb nb Z k i j v := by
  rcases h with h | h | ⟨t, h1, h2⟩
  · exact .inl h
  · exact .inr (.inl h)
  · exact .inr (.inr ⟨t, h1, h2.fr (hF.mono (fun _ h => .inl (.inl h)))⟩)

theorem Cut.lt (h : Cut c ws W mb cap nb Z w) : c < w.heap.size := (Array.getElem?_eq_some_iff.1 h.blk).1

theorem Cut.nbl (h : Cut c ws W mb cap nb Z w) : nb < w.heap.size := by
  obtain ⟨ca, ta, h⟩ := h.nbk
  exact (Array.getElem?_eq_some_iff.1 h).1

theorem Cut.nbk' (h : Cut c ws W mb cap nb Z w) {X : Nat → Prop} (hF : Fr X w w') (hX : ¬ X nb) : ∃ ca ta, w'.heap[nb]? = some (.cells ca ta (0, 0)) := by
  obtain ⟨ca, ta, h1⟩ := h.nbk
  exact ⟨ca, ta, (hF.block nb h.nbl hX).trans h1⟩

theorem Cut.fr (h : Cut c ws W mb cap nb Z w) (hF : Fr (fun _ => False) w w') : Cut c ws W mb cap nb Z w' := by
  obtain ⟨M, h1, h2⟩ := h.memo
  refine ⟨(hF.block c h.lt id).trans h.blk, ownsRow_block h.row fun b hb => hF.block b (h.row.lt b hb).2 id, h.wm, h.cm, h.nm, h.nbk' hF id, ⟨M, ownsRow_block h1 fun b hb => hF.block b (h1.lt b hb).2 id, fun k i j hk hi hj => ?_⟩, h.len, fun b hb => Nat.lt_of_lt_of_le (h.zlt b hb) hF.size⟩
  obtain ⟨v, h3, h4⟩ := h2 k i j hk hi hj
  exact ⟨v, h3, h4.fr (hF.mono (fun _ h => h.elim))⟩

theorem Cs.start (h : Cut c ws W mb cap nb Z w) : Cs c ws W mb cap nb Z w w := ⟨h, Fr.refl _ _⟩
theorem Cs.fr (h : Cs c ws W mb cap nb Z w w') (hF : Fr (fun _ => False) w' w'') : Cs c ws W mb cap nb Z w w'' := ⟨h.1.fr hF, h.2.trans hF (fun _ h => h.elim)⟩
theorem Cs.go (h : Cs c ws W mb cap nb Z w w') (h' : Cs c ws W mb cap nb Z w' w'') : Cs c ws W mb cap nb Z w w'' := ⟨h'.1, h.2.trans h'.2 (fun _ h => .inl h)⟩

theorem Cut.cells (h : Cut c ws W mb cap nb Z w) : c < w.heap.size ∧ w.cell? ⟨c, 0, none⟩ = some W ∧ w.cell? ⟨c, 1, none⟩ = some (.int .i64 ws.length) ∧ w.cell? ⟨c, 2, none⟩ = some (.slice (some ⟨mb, 0, none⟩) (tabN ws.length) cap) ∧ w.cell? ⟨c, 3, none⟩ = some (.pointer (some ⟨nb, 0, none⟩)) := by
  have hb := h.blk
  refine ⟨h.lt, ?_, ?_, ?_, ?_⟩ <;> simp [World.cell?, hb]

theorem Cut.word (h : Cut c ws W mb cap nb Z w) {i : Nat} (hi : i < ws.length) :
    ∃ lb lc, W = .slice (some ⟨lb, 0, none⟩) ws.length lc ∧ lb < w.heap.size ∧ w.cell? ⟨lb, i * 3, none⟩ = some (.string (bs (tx ws i))) ∧ w.cell? ⟨lb, i * 3 + 1, none⟩ = some (.int .i64 (wAt ws i).num) ∧ w.cell? ⟨lb, i * 3 + 2, none⟩ = some (.bool (wAt ws i).isName) := by
  have hl := h.row
  rcases h.row.2 with ⟨_, h0⟩ | ⟨g, cp, cur, rfl, hg⟩
  · omega
  · refine ⟨g, cp, rfl, (h.row.lt g rfl).2, ?_, ?_, ?_⟩
    · rw [World.ownsRow.cellAt hl _ (by omega), (rwCells_at ws i hi).1]; rfl
    · rw [World.ownsRow.cellAt hl _ (by omega), (rwCells_at ws i hi).2.1]
    · rw [World.ownsRow.cellAt hl _ (by omega), (rwCells_at ws i hi).2.2]

set_option maxHeartbeats 800000 in
set_option maxRecDepth 100000 in
theorem word_cut (h : Cut c ws W mb cap nb Z w) (i : Nat) (hi : i ≤ 1000) (s : List UInt8) :
    Calls Tryz.prog 81 #[.pointer (some ⟨c, 0, none⟩), .int .i64 i, .string (bs s)] w fun e w' => e = .returned (.bool (wd ws i s)) ∧ w' = w := by
  obtain ⟨hc, c0, c1, -, -⟩ := h.cells
  have hlen := h.len
  by_cases hlt : i < ws.length
  · obtain ⟨lb, lc, rfl, hlb, d0, -, d2⟩ := h.word hlt
    clear h
    have hd : decide ((i : Int) < (ws.length : Int)) = true := decide_eq_true (by omega)
    cases hb : (tx ws i == s) with
    | true =>
      cases hm : (wAt ws i).isName with
      | true =>
        have HR : Hid (wd ws i s = false) := by
          show _ = _
          unfold wd
          simp [hm]
        rw [hm] at d2
        generalize tx ws i = y at *
        go_enter Tryz.func81, Tryz.ntmps81
        go_wp2_with fail
        go_ret
        rw [HR.out]
        exact ⟨rfl, rfl⟩
      | false =>
        have HR : Hid (wd ws i s = true) := by
          show _ = _
          unfold wd
          have hb' : ((wAt ws i).text == s) = true := hb
          rw [hm, hb', decide_eq_true hlt]
          rfl
        rw [hm] at d2
        generalize tx ws i = y at *
        go_enter Tryz.func81, Tryz.ntmps81
        go_wp2_with fail
        go_ret
        rw [HR.out]
        exact ⟨rfl, rfl⟩
    | false =>
      have HR : Hid (wd ws i s = false) := by
        show _ = _
        unfold wd
        have hb' : ((wAt ws i).text == s) = false := hb
        rw [hb']
        simp
      generalize tx ws i = y at *
      go_enter Tryz.func81, Tryz.ntmps81
      go_wp2_with fail
      go_ret
      rw [HR.out]
      exact ⟨rfl, rfl⟩
  · have HR : Hid (wd ws i s = false) := by
      show _ = _
      unfold wd
      rw [decide_eq_false hlt]
      rfl
    have hd : decide ((i : Int) < (ws.length : Int)) = false := decide_eq_false (by omega)
    clear h
    go_enter Tryz.func81, Tryz.ntmps81
    go_wp2_with fail
    go_ret
    rw [HR.out]
    exact ⟨rfl, rfl⟩

set_option maxHeartbeats 800000 in
set_option maxRecDepth 100000 in
theorem name_cut (h : Cut c ws W mb cap nb Z w) (i : Nat) (hi : i ≤ 1000) :
    Calls Tryz.prog 83 #[.pointer (some ⟨c, 0, none⟩), .int .i64 i] w fun e w' => e = .returned (.bool (isNm ws i)) ∧ w' = w := by
  obtain ⟨hc, c0, c1, -, -⟩ := h.cells
  have hlen := h.len
  by_cases hlt : i < ws.length
  · obtain ⟨lb, lc, rfl, hlb, -, -, d2⟩ := h.word hlt
    clear h
    have HR : Hid (isNm ws i = (wAt ws i).isName) := by
      show _ = _
      unfold isNm
      rw [decide_eq_true hlt, Bool.true_and]
    have hd : decide ((i : Int) < (ws.length : Int)) = true := decide_eq_true (by omega)
    generalize (wAt ws i).isName = y at *
    go_enter Tryz.func83, Tryz.ntmps83
    go_wp2_with fail
    go_ret
    rw [HR.out]
    exact ⟨rfl, rfl⟩
  · have HR : Hid (isNm ws i = false) := by
      show _ = _
      unfold isNm
      rw [decide_eq_false hlt]
      rfl
    have hd : decide ((i : Int) < (ws.length : Int)) = false := decide_eq_false (by omega)
    clear h
    go_enter Tryz.func83, Tryz.ntmps83
    go_wp2_with fail
    go_ret
    rw [HR.out]
    exact ⟨rfl, rfl⟩
end

set_option maxHeartbeats 800000 in
set_option maxRecDepth 100000 in
/-- A node with parts is made. -/
theorem of_cut (k : List UInt8) (sa : Option Addr) (sn sc : Nat) (w : World) :
    Calls Tryz.prog 86 #[.string (bs k), .slice sa sn sc] w fun e w' => e = .returned (.pointer (some ⟨w.heap.size, 0, none⟩)) ∧ w' = w.alloc (.cells #[.string (bs k), .int .i64 0, .string (bs []), .string (bs []), .slice sa sn sc, .slice none 0 0] 70) := by
  go_enter Tryz.func86, Tryz.ntmps86
  go_wp2_with fail
  go_ret
  exact ⟨rfl, rfl⟩

end Go.Proofs.YtnbhnjokpcdnnaaGreatDoor

namespace Go.Proofs.YtnbhnjokpcdnnaaGreatDoor
open Go.RowKit

/-- An answer to B: nil where nothing is so, or a tree that is. -/
def AnsP (B : Code → Prop) (w : World) (X : Nat → Prop) (p : Value) : Prop := (p = .pointer none ∧ ∀ t, ¬ B t) ∨ ∃ t, B t ∧ Nd w X t p

/-- What a call of the cutter's answers. -/
def Res (c : Nat) (ws : List RW) (W : Value) (mb cap nb : Nat) (Z : Nat → Prop) (w : World) (B : Code → Prop) (e : Ending) (w' : World) : Prop := ∃ p, e = .returned p ∧ AnsP B w' (cX mb nb Z) p ∧ Cs c ws W mb cap nb Z w w'

def IsOk (c : Nat) (ws : List RW) (W : Value) (mb cap nb m : Nat) : Prop :=
  ∀ {Z : Nat → Prop} (k i j : Nat) (kv iv jv : Int) (w : World), kv = k → iv = i → jv = j → k ≤ 10 → i ≤ 1000 → j ≤ ws.length → (j - i) * 11 + (10 - k) < m → Cut c ws W mb cap nb Z w →
    Calls Tryz.prog 20 #[.pointer (some ⟨c, 0, none⟩), .int .i64 kv, .int .i64 iv, .int .i64 jv] w (Res c ws W mb cap nb Z w (Dv ws k i j))

section
variable {c : Nat} {ws : List RW} {W : Value} {mb cap nb : Nat} {Z : Nat → Prop} {w w' w'' : World}

theorem Cs.word (h : Cs c ws W mb cap nb Z w w') (i : Nat) {iv : Int} (hi : iv = i) (hi' : i ≤ 1000) (s : List UInt8) :
    Calls Tryz.prog 81 #[.pointer (some ⟨c, 0, none⟩), .int .i64 iv, .string (bs s)] w' fun e w'' => e = .returned (.bool (wd ws i s)) ∧ w'' = w' := by
  subst hi
  exact word_cut h.1 i hi' s

theorem Cs.name (h : Cs c ws W mb cap nb Z w w') (i : Nat) {iv : Int} (hi : iv = i) (hi' : i ≤ 1000) :
    Calls Tryz.prog 83 #[.pointer (some ⟨c, 0, none⟩), .int .i64 iv] w' fun e w'' => e = .returned (.bool (isNm ws i)) ∧ w'' = w' := by
  subst hi
  exact name_cut h.1 i hi'

theorem AnsP.fr {B : Code → Prop} {p : Value} (h : AnsP B w (cX mb nb Z) p) (hF : Fr (fun b => b = mb) w w') : AnsP B w' (cX mb nb Z) p := by
  rcases h with h | ⟨t, h1, h2⟩
  · exact .inl h
  · exact .inr ⟨t, h1, h2.fr (hF.mono (fun _ h => .inl (.inl h)))⟩

theorem Nd.cs {t : Code} {p : Value} (h : Nd w (cX mb nb Z) t p) (hF : Fr (fun b => b = mb) w w') : Nd w' (cX mb nb Z) t p := h.fr (hF.mono (fun _ h => .inl (.inl h)))

/-- A new block is none of the cutter's. -/
theorem Cut.new (h : Cut c ws W mb cap nb Z w) {b : Nat} (hb : w.heap.size ≤ b) : ¬ cX mb nb Z b := by
  obtain ⟨M, h1, _⟩ := h.memo
  have := (h1.lt mb rfl).2
  have := h.nbl
  rintro (rfl | rfl | hz)
  · omega
  · omega
  · have := h.zlt b hz; omega

/-- A node over a new row of parts. -/
theorem Cut.node (h : Cut c ws W mb cap nb Z w) {k : List UInt8} {n : Int} {nm ow : List UInt8} {vs : List Value} {ts : List Code} (ht : Nds w (cX mb nb Z) ts vs) (hl : vs.length ≤ 10) {g q : Nat} (hF : Fr (fun _ => False) w w') (hg : w.heap.size ≤ g) (hq : w.heap.size ≤ q)
    (h1 : w'.heap[g]? = some (.cells vs.toArray 26 (0, 0)))
    (h2 : w'.heap[q]? = some (.cells #[.string (bs k), .int .i64 n, .string (bs nm), .string (bs ow), .slice (some ⟨g, 0, none⟩) vs.length vs.length, .slice none 0 0] 70 (0, 0))) : Nd w' (cX mb nb Z) (nd k n nm ow ts []) (.pointer (some ⟨q, 0, none⟩)) := by
  refine Nd.mk (vs := .slice (some ⟨g, 0, none⟩) vs.length vs.length) (vp := .slice none 0 0) (cs := vs) (cp := []) (h.new hq) h2 ?_ ?_ (ht.fr (hF.mono (fun _ h => h.elim))) (World.ownsRow_nil _ _ _ _) (fun b hb => by cases hb) Nds.nil
  · exact ⟨by simp, .inr ⟨g, vs.length, vs.toArray, rfl, Nat.zero_le _, h1, Nat.le_refl _, by simp [maxLen]; omega, by simp, by simp⟩⟩
  · intro b hb
    cases hb
    exact h.new hg

theorem Cut.node2 (h : Cut c ws W mb cap nb Z w) {k : List UInt8} {n : Int} {nm ow : List UInt8} {vs : List Value} {ts : List Code} (ht : Nds w (cX mb nb Z) ts vs) (hl : vs.length ≤ 10) {q L : Nat} (hq : q = w.heap.size + 1) (hL : L = vs.length) :
    Nd ((w.alloc (.cells vs.toArray 26)).alloc (.cells #[.string (bs k), .int .i64 n, .string (bs nm), .string (bs ow), .slice (some ⟨w.heap.size, 0, none⟩) L L, .slice none 0 0] 70)) (cX mb nb Z) (nd k n nm ow ts []) (.pointer (some ⟨q, 0, none⟩)) := by
  subst hq hL
  refine h.node (g := w.heap.size) ht hl (by repeat (first | exact Fr.refl _ _ | (refine Fr.setCell ?_ (by first | exact .inl rfl | exact .inr (Nat.le_refl _) | (right; simp; omega)) _) | refine Fr.drewN ?_ _ | refine Fr.drew ?_ | refine Fr.alloc ?_ _)) (Nat.le_refl _) (Nat.le_succ _) ?_ ?_
  · rw [Below.heap_alloc _ _ _ (by simp)]
    exact heap_alloc_new _ _
  · rw [show w.heap.size + 1 = (w.alloc (.cells vs.toArray 26)).heap.size by simp]
    exact heap_alloc_new _ _
end

theorem no_ext {P : Nat → Prop} {q : Nat} (h : ∀ p, p < q → P p) (hq : P q) : ∀ p, p < q + 1 → P p := fun p hp => by
  by_cases e : p = q
  · rw [e]; exact hq
  · exact h p (by omega)

set_option maxHeartbeats 3200000 in
set_option maxRecDepth 100000 in
theorem infix_cut {c : Nat} {ws : List RW} {W : Value} {mb cap nb m : Nat} {Z : Nat → Prop} {w : World} (IH : IsOk c ws W mb cap nb m) {i j l r a : Nat} (one other : List UInt8) (hij : i < j) (hj : j ≤ ws.length) (hm : (j - i) * 11 ≤ m) (ha : (j - i) * 11 + (10 - a) < m)
    (hl10 : l ≤ 10) (hr10 : r ≤ 10) (ha10 : a ≤ 10) (h : Cut c ws W mb cap nb Z w) :
    Calls Tryz.prog 69 #[.pointer (some ⟨c, 0, none⟩), .int .i64 i, .int .i64 j, .int .i64 l, .int .i64 r, .int .i64 a, .string (bs one), .string (bs other)] w (Res c ws W mb cap nb Z w (bInf ws (Dv ws) i j l r a one other)) := by
  have hlen := h.len
  have hC0 := Cs.start h
  clear h
  go_enter Tryz.func69, Tryz.ntmps69
  go_wp2_with fail
  refine (IH a i j _ _ _ _ (by omega) (by omega) (by omega) ha10 (by omega) hj ha hC0.1).mono ?_
  rintro e w1 ⟨p0, rfl, hA, hC1⟩
  go_wp2_with fail
  go_loopg [17, 18] (j - (i + 1)) (fun m tv pv wr => ∃ q : Nat, pv = .int .i64 q ∧ i + 1 ≤ q ∧ q ≤ j ∧ m = j - q ∧ Cs c ws W mb cap nb Z w wr ∧
    ((tv = .pointer none ∧ (∀ t, ¬ Dv ws a i j t) ∧ ∀ p, p < q → i < p → (wd ws p one = true ∨ wd ws p other = true) → ∀ x y, Dv ws l i p x → ¬ Dv ws r (p + 1) j y) ∨ ∃ t, bInf ws (Dv ws) i j l r a one other t ∧ Nd wr (cX mb nb Z) t tv))
  case atStart =>
    refine ⟨i + 1, by go_num, Nat.le_refl _, by omega, by omega, hC1, ?_⟩
    rcases hA with ⟨rfl, hno⟩ | ⟨t, hD, hN⟩
    · exact .inl ⟨rfl, hno, fun p h1 h2 => by omega⟩
    · exact .inr ⟨t, .inl hD, hN⟩
  case round =>
    clear hA hC1 hC0
    obtain ⟨q, rfl, hq1, hq2, hgk, hC, hst⟩ := hrel
    have HM : Hid (gk = j - q) := hgk
    clear hgk
    rcases hst with ⟨rfl, hna, hno⟩ | ⟨t, hB, hN⟩
    · have HNA : Hid (∀ t, ¬ Dv ws a i j t) := hna
      have HNO : Hid (∀ p, p < q → i < p → (wd ws p one = true ∨ wd ws p other = true) → ∀ x y, Dv ws l i p x → ¬ Dv ws r (p + 1) j y) := hno
      clear hna hno
      by_cases hqj : q < j
      · go_wp2_with fail
        refine (hC.word q (by omega) (by omega) one).mono ?_
        rintro e w2 ⟨rfl, rfl⟩
        go_wp2_with fail
        refine (hC.word q (by omega) (by omega) other).mono ?_
        rintro e w2 ⟨rfl, rfl⟩
        cases hx : wd ws q one <;> cases hy : wd ws q other
        · go_wp2_with fail
          go_roundg (j - (q + 1))
          case measure => rw [HM.out]; omega
          case rel => exact ⟨q + 1, by go_num, by omega, by omega, rfl, hC, .inl ⟨rfl, HNA.out, no_ext HNO.out (fun _ h => by rw [hx, hy] at h; rcases h with h | h <;> cases h)⟩⟩
        all_goals
          have HS : Hid (wd ws q one = true ∨ wd ws q other = true) := by first | exact Or.inl hx | exact Or.inr hy
          clear hx hy
          go_wp2_with fail
          refine (IH l i q _ _ _ _ (by omega) (by omega) (by omega) hl10 (by omega) (by omega) (by omega) hC.1).mono ?_
          rintro e w3 ⟨pa, rfl, hA, hC3⟩
          go_wp2_with fail
          refine (IH r (q + 1) j _ _ _ _ (by omega) (by omega) (by omega) hr10 (by omega) (by omega) (by omega) hC3.1).mono ?_
          rintro e w4 ⟨pb, rfl, hB, hC4⟩
          have hA4 := hA.fr hC4.2
          have hC5 := (hC.go hC3).go hC4
          clear hA hC hC3 hC4
          rcases hA4 with ⟨rfl, hna⟩ | ⟨ta, hDa, hNa⟩
          · have HNX : Hid (∀ t, ¬ Dv ws l i q t) := hna
            clear hna
            go_wp2_with fail
            go_roundg (j - (q + 1))
            case measure => rw [HM.out]; omega
            case rel => exact ⟨q + 1, by go_num, by omega, by omega, rfl, hC5, .inl ⟨rfl, HNA.out, no_ext HNO.out (fun _ _ x y h => (HNX.out x h).elim)⟩⟩
          · obtain ⟨ba, rfl, hba, hbal⟩ := hNa.ptr
            rcases hB with ⟨rfl, hnb⟩ | ⟨tb, hDb, hNb⟩
            · have HNX : Hid (∀ t, ¬ Dv ws r (q + 1) j t) := hnb
              clear hnb
              go_wp2_with fail
              go_roundg (j - (q + 1))
              case measure => rw [HM.out]; omega
              case rel => exact ⟨q + 1, by go_num, by omega, by omega, rfl, hC5, .inl ⟨rfl, HNA.out, no_ext HNO.out (fun _ _ x y _ h => HNX.out y h)⟩⟩
            · obtain ⟨bb, rfl, hbb, hbbl⟩ := hNb.ptr
              obtain ⟨lb, lc, hW, hlb, d0, -, -⟩ := hC5.1.word (i := q) (by omega)
              obtain ⟨hc, c0, -, -, -⟩ := hC5.1.cells
              have HT : Hid (Nds w4 (cX mb nb Z) [ta, tb] [.pointer (some ⟨ba, 0, none⟩), .pointer (some ⟨bb, 0, none⟩)]) := .cons hNa (.cons hNb .nil)
              have HI : Hid (∀ t, t = nd (opK ws q) 0 [] [] [ta, tb] [] → bInf ws (Dv ws) i j l r a one other t) := fun t ht => .inr ⟨q, ta, tb, by omega, hqj, HS.out, hDa, hDb, ht⟩
              clear hNa hNb hDa hDb HNO HNA
              rw [hW] at c0
              clear hW
              cases hk : (tx ws q == [58, 58]) with
              | true =>
                have HK : Hid (opK ws q = [99, 111, 110, 115]) := by show _ = _; unfold opK; rw [if_pos (eq_of_beq hk)]
                generalize tx ws q = y at *
                go_wp2_with fail
                refine (of_cut _ _ _ _ _).mono ?_
                rintro e w5 ⟨rfl, rfl⟩
                go_wp2_with fail
                go_roundg (j - (q + 1))
                case measure => rw [HM.out]; omega
                case rel =>
                  refine ⟨q + 1, by go_num, by omega, by omega, rfl, hC5.fr (by repeat (first | exact Fr.refl _ _ | (refine Fr.setCell ?_ (by first | exact .inl rfl | exact .inr (Nat.le_refl _) | (right; simp; omega)) _) | refine Fr.drewN ?_ _ | refine Fr.drew ?_ | refine Fr.alloc ?_ _)), .inr ⟨_, HI.out _ (by rw [HK.out]), ?_⟩⟩
                  exact hC5.1.node2 (vs := [.pointer (some ⟨ba, 0, none⟩), .pointer (some ⟨bb, 0, none⟩)]) HT.out (by simp) (by simp) rfl
              | false =>
                have HK : Hid (opK ws q = tx ws q) := by show _ = _; unfold opK; rw [if_neg (ne_of_beq_false hk)]
                generalize tx ws q = y at *
                go_wp2_with fail
                refine (of_cut _ _ _ _ _).mono ?_
                rintro e w5 ⟨rfl, rfl⟩
                go_wp2_with fail
                go_roundg (j - (q + 1))
                case measure => rw [HM.out]; omega
                case rel =>
                  refine ⟨q + 1, by go_num, by omega, by omega, rfl, hC5.fr (by repeat (first | exact Fr.refl _ _ | (refine Fr.setCell ?_ (by first | exact .inl rfl | exact .inr (Nat.le_refl _) | (right; simp; omega)) _) | refine Fr.drewN ?_ _ | refine Fr.drew ?_ | refine Fr.alloc ?_ _)), .inr ⟨_, HI.out _ (by rw [HK.out]), ?_⟩⟩
                  exact hC5.1.node2 (vs := [.pointer (some ⟨ba, 0, none⟩), .pointer (some ⟨bb, 0, none⟩)]) HT.out (by simp) (by simp) rfl
      · go_wp2_with fail
        go_ret
        refine ⟨_, rfl, .inl ⟨rfl, ?_⟩, hC⟩
        rintro t (h1 | ⟨p, x, y, h1, h2, h3, h4, h5, h6⟩)
        · exact HNA.out _ h1
        · exact HNO.out p (by omega) h1 h3 x y h4 h5
    · obtain ⟨b, rfl, hb, hlt⟩ := hN.ptr
      by_cases hqj : q < j
      · go_wp2_with fail
        go_ret
        exact ⟨_, rfl, .inr ⟨t, hB, hN⟩, hC⟩
      · go_wp2_with fail
        go_ret
        exact ⟨_, rfl, .inr ⟨t, hB, hN⟩, hC⟩
end Go.Proofs.YtnbhnjokpcdnnaaGreatDoor

namespace Go.Proofs.YtnbhnjokpcdnnaaGreatDoor
open Go.RowKit

set_option maxHeartbeats 3200000 in
set_option maxRecDepth 100000 in
theorem round_cut {c : Nat} {ws : List RW} {W : Value} {mb cap nb m : Nat} {Z : Nat → Prop} {w : World} (IH : IsOk c ws W mb cap nb m) {i j k : Nat} {kv : Int} (hkv : kv = k) (hij : i + 2 ≤ j) (hj : j ≤ ws.length) (hm : (j - i) * 11 ≤ m) (hk10 : k ≤ 10) (h : Cut c ws W mb cap nb Z w) :
    Calls Tryz.prog 87 #[.pointer (some ⟨c, 0, none⟩), .int .i64 i, .int .i64 j, .int .i64 kv] w (Res c ws W mb cap nb Z w (bRound ws (Dv ws) i j k)) := by
  subst hkv
  have hlen := h.len
  have hC0 := Cs.start h
  clear h
  go_enter Tryz.func87, Tryz.ntmps87
  go_wp2_with fail
  refine (hC0.word i (by omega) (by omega) [40]).mono ?_
  rintro e w1 ⟨rfl, rfl⟩
  go_wp2_with fail
  refine (hC0.word (j - 1) (by omega) (by omega) [41]).mono ?_
  rintro e w2 ⟨rfl, rfl⟩
  cases hx : wd ws i [40]
  · go_wp2_with fail
    go_ret
    refine ⟨_, rfl, .inl ⟨rfl, fun t h => ?_⟩, hC0⟩
    have h1 := h.1
    rw [hx] at h1
    cases h1
  cases hy : wd ws (j - 1) [41]
  · go_wp2_with fail
    go_ret
    refine ⟨_, rfl, .inl ⟨rfl, fun t h => ?_⟩, hC0⟩
    have h2 := h.2.1
    rw [hy] at h2
    cases h2
  have HB : Hid (wd ws i [40] = true ∧ wd ws (j - 1) [41] = true) := ⟨hx, hy⟩
  clear hx hy
  go_wp2_with fail
  refine (IH k (i + 1) (j - 1) _ _ _ _ (by omega) (by omega) (by omega) hk10 (by omega) (by omega) (by omega) hC0.1).mono ?_
  rintro e w1 ⟨p0, rfl, hA, hC1⟩
  go_wp2_with fail
  go_loopg [11, 12] (j - (i + 2)) (fun m tv pv wr => ∃ q : Nat, pv = .int .i64 q ∧ i + 2 ≤ q ∧ q ≤ j ∧ m = j - q ∧ Cs c ws W mb cap nb Z w2 wr ∧
    ((tv = .pointer none ∧ (∀ t, ¬ Dv ws k (i + 1) (j - 1) t) ∧ ∀ p, p < q → i + 2 ≤ p → wd ws p [44] = true → ∀ x y, Dv ws k (i + 1) p x → ¬ Dv ws k (p + 1) (j - 1) y) ∨ ∃ t, bRound ws (Dv ws) i j k t ∧ Nd wr (cX mb nb Z) t tv))
  case atStart =>
    refine ⟨i + 2, by go_num, Nat.le_refl _, by omega, by omega, hC1, ?_⟩
    rcases hA with ⟨rfl, hno⟩ | ⟨t, hD, hN⟩
    · exact .inl ⟨rfl, hno, fun p h1 h2 => by omega⟩
    · exact .inr ⟨t, ⟨HB.out.1, HB.out.2, .inl hD⟩, hN⟩
  case round =>
    clear hA hC1 hC0
    obtain ⟨q, rfl, hq1, hq2, hgk, hC, hst⟩ := hrel
    have HM : Hid (gk = j - q) := hgk
    clear hgk
    rcases hst with ⟨rfl, hna, hno⟩ | ⟨t, hB, hN⟩
    · have HNA : Hid (∀ t, ¬ Dv ws k (i + 1) (j - 1) t) := hna
      have HNO : Hid (∀ p, p < q → i + 2 ≤ p → wd ws p [44] = true → ∀ x y, Dv ws k (i + 1) p x → ¬ Dv ws k (p + 1) (j - 1) y) := hno
      clear hna hno
      by_cases hqj : q + 1 < j
      · go_wp2_with fail
        refine (hC.word q (by omega) (by omega) [44]).mono ?_
        rintro e w3 ⟨rfl, rfl⟩
        cases hx : wd ws q [44]
        · go_wp2_with fail
          go_roundg (j - (q + 1))
          case measure => rw [HM.out]; omega
          case rel => exact ⟨q + 1, by go_num, by omega, by omega, rfl, hC, .inl ⟨rfl, HNA.out, no_ext HNO.out (fun _ h => by rw [hx] at h; cases h)⟩⟩
        · have HS : Hid (wd ws q [44] = true) := hx
          clear hx
          go_wp2_with fail
          refine (IH k (i + 1) q _ _ _ _ (by omega) (by omega) (by omega) hk10 (by omega) (by omega) (by omega) hC.1).mono ?_
          rintro e w4 ⟨pa, rfl, hA, hC3⟩
          go_wp2_with fail
          refine (IH k (q + 1) (j - 1) _ _ _ _ (by omega) (by omega) (by omega) hk10 (by omega) (by omega) (by omega) hC3.1).mono ?_
          rintro e w5 ⟨pb, rfl, hB, hC4⟩
          have hA4 := hA.fr hC4.2
          have hC5 := (hC.go hC3).go hC4
          clear hA hC hC3 hC4
          rcases hA4 with ⟨rfl, hna⟩ | ⟨ta, hDa, hNa⟩
          · have HNX : Hid (∀ t, ¬ Dv ws k (i + 1) q t) := hna
            clear hna
            go_wp2_with fail
            go_roundg (j - (q + 1))
            case measure => rw [HM.out]; omega
            case rel => exact ⟨q + 1, by go_num, by omega, by omega, rfl, hC5, .inl ⟨rfl, HNA.out, no_ext HNO.out (fun _ _ x y h => (HNX.out x h).elim)⟩⟩
          · obtain ⟨ba, rfl, hba, hbal⟩ := hNa.ptr
            rcases hB with ⟨rfl, hnb⟩ | ⟨tb, hDb, hNb⟩
            · have HNX : Hid (∀ t, ¬ Dv ws k (q + 1) (j - 1) t) := hnb
              clear hnb
              go_wp2_with fail
              go_roundg (j - (q + 1))
              case measure => rw [HM.out]; omega
              case rel => exact ⟨q + 1, by go_num, by omega, by omega, rfl, hC5, .inl ⟨rfl, HNA.out, no_ext HNO.out (fun _ _ x y _ h => HNX.out y h)⟩⟩
            · obtain ⟨bb, rfl, hbb, hbbl⟩ := hNb.ptr
              have HT : Hid (Nds w5 (cX mb nb Z) [ta, tb] [.pointer (some ⟨ba, 0, none⟩), .pointer (some ⟨bb, 0, none⟩)]) := .cons hNa (.cons hNb .nil)
              have HI : Hid (∀ t, t = nd [112, 97, 105, 114] 0 [] [] [ta, tb] [] → bRound ws (Dv ws) i j k t) := fun t ht => ⟨HB.out.1, HB.out.2, .inr ⟨q, ta, tb, hq1, by omega, HS.out, hDa, hDb, ht⟩⟩
              clear hNa hNb hDa hDb HNO HNA
              go_wp2_with fail
              refine (of_cut _ _ _ _ _).mono ?_
              rintro e w6 ⟨rfl, rfl⟩
              go_wp2_with fail
              go_roundg (j - (q + 1))
              case measure => rw [HM.out]; omega
              case rel =>
                refine ⟨q + 1, by go_num, by omega, by omega, rfl, hC5.fr (by repeat (first | exact Fr.refl _ _ | (refine Fr.setCell ?_ (by first | exact .inl rfl | exact .inr (Nat.le_refl _) | (right; simp; omega)) _) | refine Fr.drewN ?_ _ | refine Fr.drew ?_ | refine Fr.alloc ?_ _)), .inr ⟨_, HI.out _ rfl, ?_⟩⟩
                exact hC5.1.node2 (vs := [.pointer (some ⟨ba, 0, none⟩), .pointer (some ⟨bb, 0, none⟩)]) HT.out (by simp) (by simp) rfl
      · go_wp2_with fail
        go_ret
        refine ⟨_, rfl, .inl ⟨rfl, ?_⟩, hC⟩
        rintro t ⟨_, _, h1 | ⟨p, x, y, h1, h2, h3, h4, h5, h6⟩⟩
        · exact HNA.out _ h1
        · exact HNO.out p (by omega) h1 h3 x y h4 h5
    · obtain ⟨b, rfl, hb, hlt⟩ := hN.ptr
      by_cases hqj : q + 1 < j
      · go_wp2_with fail
        go_ret
        exact ⟨_, rfl, .inr ⟨t, hB, hN⟩, hC⟩
      · go_wp2_with fail
        go_ret
        exact ⟨_, rfl, .inr ⟨t, hB, hN⟩, hC⟩
end Go.Proofs.YtnbhnjokpcdnnaaGreatDoor

namespace Go.Proofs.YtnbhnjokpcdnnaaGreatDoor
open Go.RowKit

section
variable {c : Nat} {ws : List RW} {W : Value} {mb cap nb : Nat} {Z : Nat → Prop} {w w' w'' : World}

/-- A node without parts. -/
theorem Cut.leaf (h : Cut c ws W mb cap nb Z w) {k : List UInt8} {n : Int} {nm ow : List UInt8} {q : Nat} (hq : w.heap.size ≤ q)
    (h2 : w'.heap[q]? = some (.cells #[.string (bs k), .int .i64 n, .string (bs nm), .string (bs ow), .slice none 0 0, .slice none 0 0] 70 (0, 0))) : Nd w' (cX mb nb Z) (nd k n nm ow [] []) (.pointer (some ⟨q, 0, none⟩)) :=
  Nd.mk (vs := .slice none 0 0) (vp := .slice none 0 0) (cs := []) (cp := []) (h.new hq) h2 (World.ownsRow_nil _ _ _ _) (fun b hb => by cases hb) Nds.nil (World.ownsRow_nil _ _ _ _) (fun b hb => by cases hb) Nds.nil
end

theorem blk_at {w : World} {q : Nat} (o : Obj) (h : q = w.heap.size) : (w.alloc o).heap[q]? = some o := by
  subst h
  exact heap_alloc_new _ _

set_option maxHeartbeats 3200000 in
set_option maxRecDepth 100000 in
theorem atom1_cut {c : Nat} {ws : List RW} {W : Value} {mb cap nb : Nat} {Z : Nat → Prop} {w : World} {i j : Nat} (hij : j = i + 1) (hj : j ≤ ws.length) (h : Cut c ws W mb cap nb Z w) :
    Calls Tryz.prog 71 #[.pointer (some ⟨c, 0, none⟩), .int .i64 i, .int .i64 j] w (Res c ws W mb cap nb Z w (one1 ws i)) := by
  have hlen := h.len
  have hC := Cs.start h
  obtain ⟨lb, lc, hW, hlb, d0, d1, d2⟩ := h.word (i := i) (by omega)
  obtain ⟨hc, c0, -, -, -⟩ := h.cells
  rw [hW] at c0
  have HH : Hid (Cut c ws W mb cap nb Z w) := h
  clear h hW
  have HO : Hid (∀ t, one1 ws i t = (if (wAt ws i).isName then t = nd [118, 97, 114] 0 (tx ws i) [] [] []
    else if tx ws i = [] then t = nd [110, 117, 109] (wAt ws i).num [] [] [] []
    else if tx ws i = [116, 114, 117, 101] then t = nd [98, 111, 111, 108] 1 [] [] [] []
    else if tx ws i = [102, 97, 108, 115, 101] then t = nd [98, 111, 111, 108] 0 [] [] [] []
    else if tx ws i = [91, 93] then t = nd [110, 105, 108] 0 [] [] [] []
    else if tx ws i = [114, 101, 97, 100] then t = nd [114, 101, 97, 100] 0 [] [] [] []
    else False)) := fun t => rfl
  generalize one1 ws i = B at *
  generalize tx ws i = y at *
  generalize (wAt ws i).num = n at *
  have hE : (j : Int) = (i : Int) + 1 := by omega
  cases hm : (wAt ws i).isName with
  | true =>
    rw [hm] at d2
    go_enter Tryz.func71, Tryz.ntmps71
    go_wp2_with fail
    go_ret
    refine ⟨_, rfl, .inr ⟨_, by rw [HO.out, if_pos hm], ?_⟩, hC.fr (by repeat (first | exact Fr.refl _ _ | (refine Fr.setCell ?_ (by first | exact .inl rfl | exact .inr (Nat.le_refl _) | (right; simp; omega)) _) | refine Fr.drewN ?_ _ | refine Fr.drew ?_ | refine Fr.alloc ?_ _))⟩
    refine HH.out.leaf ?_ (blk_at _ ?_)
    all_goals simp
  | false =>
    rw [hm] at d2
    have hm' : ¬ (wAt ws i).isName = true := by rw [hm]; simp
    cases e0 : (y == []) with
    | true =>
      have HK : Hid (y = []) := eq_of_beq e0
      go_enter Tryz.func71, Tryz.ntmps71
      go_wp2_with fail
      go_ret
      refine ⟨_, rfl, .inr ⟨_, by rw [HO.out, if_neg hm', if_pos HK.out], ?_⟩, hC.fr (by repeat (first | exact Fr.refl _ _ | (refine Fr.setCell ?_ (by first | exact .inl rfl | exact .inr (Nat.le_refl _) | (right; simp; omega)) _) | refine Fr.drewN ?_ _ | refine Fr.drew ?_ | refine Fr.alloc ?_ _))⟩
      refine HH.out.leaf ?_ (blk_at _ ?_)
      all_goals simp
    | false =>
      have g0 : Hid (¬ y = []) := ne_of_beq_false e0
      cases e1 : (y == [116, 114, 117, 101]) with
      | true =>
        have HK : Hid (y = [116, 114, 117, 101]) := eq_of_beq e1
        go_enter Tryz.func71, Tryz.ntmps71
        go_wp2_with fail
        go_ret
        refine ⟨_, rfl, .inr ⟨_, by rw [HO.out, if_neg hm', if_neg g0.out, if_pos HK.out], ?_⟩, hC.fr (by repeat (first | exact Fr.refl _ _ | (refine Fr.setCell ?_ (by first | exact .inl rfl | exact .inr (Nat.le_refl _) | (right; simp; omega)) _) | refine Fr.drewN ?_ _ | refine Fr.drew ?_ | refine Fr.alloc ?_ _))⟩
        refine HH.out.leaf ?_ (blk_at _ ?_)
        all_goals simp
      | false =>
        have g1 : Hid (¬ y = [116, 114, 117, 101]) := ne_of_beq_false e1
        cases e2 : (y == [102, 97, 108, 115, 101]) with
        | true =>
          have HK : Hid (y = [102, 97, 108, 115, 101]) := eq_of_beq e2
          go_enter Tryz.func71, Tryz.ntmps71
          go_wp2_with fail
          refine (of_cut _ _ _ _ _).mono ?_
          rintro e w1 ⟨rfl, rfl⟩
          go_wp2_with fail
          go_ret
          refine ⟨_, rfl, .inr ⟨_, by rw [HO.out, if_neg hm', if_neg g0.out, if_neg g1.out, if_pos HK.out], ?_⟩, hC.fr (by repeat (first | exact Fr.refl _ _ | (refine Fr.setCell ?_ (by first | exact .inl rfl | exact .inr (Nat.le_refl _) | (right; simp; omega)) _) | refine Fr.drewN ?_ _ | refine Fr.drew ?_ | refine Fr.alloc ?_ _))⟩
          refine HH.out.leaf ?_ (blk_at _ ?_)
          all_goals simp
        | false =>
          have g2 : Hid (¬ y = [102, 97, 108, 115, 101]) := ne_of_beq_false e2
          cases e3 : (y == [91, 93]) with
          | true =>
            have HK : Hid (y = [91, 93]) := eq_of_beq e3
            go_enter Tryz.func71, Tryz.ntmps71
            go_wp2_with fail
            refine (of_cut _ _ _ _ _).mono ?_
            rintro e w1 ⟨rfl, rfl⟩
            go_wp2_with fail
            go_ret
            refine ⟨_, rfl, .inr ⟨_, by rw [HO.out, if_neg hm', if_neg g0.out, if_neg g1.out, if_neg g2.out, if_pos HK.out], ?_⟩, hC.fr (by repeat (first | exact Fr.refl _ _ | (refine Fr.setCell ?_ (by first | exact .inl rfl | exact .inr (Nat.le_refl _) | (right; simp; omega)) _) | refine Fr.drewN ?_ _ | refine Fr.drew ?_ | refine Fr.alloc ?_ _))⟩
            refine HH.out.leaf ?_ (blk_at _ ?_)
            all_goals simp
          | false =>
            have g3 : Hid (¬ y = [91, 93]) := ne_of_beq_false e3
            cases e4 : (y == [114, 101, 97, 100]) with
            | true =>
              have HK : Hid (y = [114, 101, 97, 100]) := eq_of_beq e4
              go_enter Tryz.func71, Tryz.ntmps71
              go_wp2_with fail
              refine (of_cut _ _ _ _ _).mono ?_
              rintro e w1 ⟨rfl, rfl⟩
              go_wp2_with fail
              go_ret
              refine ⟨_, rfl, .inr ⟨_, by rw [HO.out, if_neg hm', if_neg g0.out, if_neg g1.out, if_neg g2.out, if_neg g3.out, if_pos HK.out], ?_⟩, hC.fr (by repeat (first | exact Fr.refl _ _ | (refine Fr.setCell ?_ (by first | exact .inl rfl | exact .inr (Nat.le_refl _) | (right; simp; omega)) _) | refine Fr.drewN ?_ _ | refine Fr.drew ?_ | refine Fr.alloc ?_ _))⟩
              refine HH.out.leaf ?_ (blk_at _ ?_)
              all_goals simp
            | false =>
              have g4 : Hid (¬ y = [114, 101, 97, 100]) := ne_of_beq_false e4
              go_enter Tryz.func71, Tryz.ntmps71
              go_wp2_with fail
              go_ret
              refine ⟨_, rfl, .inl ⟨rfl, fun t h => ?_⟩, hC.fr (by repeat (first | exact Fr.refl _ _ | (refine Fr.setCell ?_ (by first | exact .inl rfl | exact .inr (Nat.le_refl _) | (right; simp; omega)) _) | refine Fr.drewN ?_ _ | refine Fr.drew ?_ | refine Fr.alloc ?_ _))⟩
              rw [HO.out, if_neg hm', if_neg g0.out, if_neg g1.out, if_neg g2.out, if_neg g3.out, if_neg g4.out] at h
              exact h

set_option maxHeartbeats 3200000 in
set_option maxRecDepth 100000 in
theorem atom_cut {c : Nat} {ws : List RW} {W : Value} {mb cap nb m : Nat} {Z : Nat → Prop} {w : World} (IH : IsOk c ws W mb cap nb m) {i j : Nat} (hij : i < j) (hj : j ≤ ws.length) (hm : (j - i) * 11 ≤ m) (h : Cut c ws W mb cap nb Z w) :
    Calls Tryz.prog 71 #[.pointer (some ⟨c, 0, none⟩), .int .i64 i, .int .i64 j] w (Res c ws W mb cap nb Z w (bAtom ws (Dv ws) i j)) := by
  by_cases he : j = i + 1
  · have : bAtom ws (Dv ws) i j = one1 ws i := by
      funext t
      unfold bAtom
      rw [if_pos he]
    rw [this]
    exact atom1_cut he hj h
  · have HB : Hid (bAtom ws (Dv ws) i j = bRound ws (Dv ws) i j 0) := by
      show _ = _
      funext t
      unfold bAtom
      rw [if_neg he]
    have hlen := h.len
    go_enter Tryz.func71, Tryz.ntmps71
    go_wp2_with fail
    refine (round_cut IH (k := 0) rfl (by omega) hj hm (by omega) h).mono ?_
    rintro e w1 ⟨p, rfl, hA, hC⟩
    go_wp2_with fail
    go_ret
    rw [HB.out]
    exact ⟨_, rfl, hA, hC⟩

/-- The word of a node's kind. -/
theorem Nd.kind {w : World} {X : Nat → Prop} {k : List UInt8} {n : Int} {nm ow : List UInt8} {subs pats : List Code} {b : Nat} (h : Nd w X (nd k n nm ow subs pats) (.pointer (some ⟨b, 0, none⟩))) : b < w.heap.size ∧ w.cell? ⟨b, 0, none⟩ = some (.string (bs k)) := by
  obtain ⟨b', vs, vp, cs, cp, h1, h2, h3, _⟩ := h.open
  cases h1
  exact ⟨(Array.getElem?_eq_some_iff.1 h3).1, by simp [World.cell?, h3]⟩

theorem one1_kind {ws : List RW} {i : Nat} {t : Code} (h : one1 ws i t) : ∃ k n nm, t = nd k n nm [] [] [] ∧ ((k = [114, 101, 97, 100]) ↔ ((wAt ws i).isName = false ∧ tx ws i = [114, 101, 97, 100])) := by
  unfold one1 at h
  split at h
  · rename_i h0; exact ⟨_, _, _, h, by simp [h0]⟩
  rename_i h0
  split at h
  · rename_i h1; exact ⟨_, _, _, h, by simp [h1]⟩
  split at h
  · rename_i h1; exact ⟨_, _, _, h, by simp [h1]⟩
  split at h
  · rename_i h1; exact ⟨_, _, _, h, by simp [h1]⟩
  split at h
  · rename_i h1; exact ⟨_, _, _, h, by simp [h1]⟩
  split at h
  · rename_i h1; exact ⟨_, _, _, h, by simp [h1]; simpa using h0⟩
  · exact h.elim

set_option maxHeartbeats 3200000 in
set_option maxRecDepth 100000 in
theorem simple_cut {c : Nat} {ws : List RW} {W : Value} {mb cap nb m : Nat} {Z : Nat → Prop} {w : World} (IH : IsOk c ws W mb cap nb m) {i j : Nat} (hij : i < j) (hj : j ≤ ws.length) (hm : (j - i) * 11 ≤ m) (h : Cut c ws W mb cap nb Z w) :
    Calls Tryz.prog 72 #[.pointer (some ⟨c, 0, none⟩), .int .i64 i, .int .i64 j] w (Res c ws W mb cap nb Z w (bSimple ws (Dv ws) i j)) := by
  have hlen := h.len
  by_cases he : i + 1 < j
  · have HB : Hid (bSimple ws (Dv ws) i j = bRound ws (Dv ws) i j 7) := by
      show _ = _
      funext t
      unfold bSimple
      rw [if_pos he]
    go_enter Tryz.func72, Tryz.ntmps72
    go_wp2_with fail
    refine (round_cut IH (k := 7) rfl (by omega) hj hm (by omega) h).mono ?_
    rintro e w1 ⟨p, rfl, hA, hC⟩
    go_wp2_with fail
    go_ret
    rw [HB.out]
    exact ⟨_, rfl, hA, hC⟩
  · have HH : Hid (Cut c ws W mb cap nb Z w) := h
    obtain ⟨lb, lc, hW, hlb, d0, -, -⟩ := h.word (i := i) (by omega)
    obtain ⟨hc, c0, -, -, -⟩ := h.cells
    rw [hW] at c0
    have HB : Hid (∀ t, bSimple ws (Dv ws) i j t = if tx ws i = [95] then t = nd [97, 110, 121] 0 [] [] [] [] else one1 ws i t ∧ ¬ ((wAt ws i).isName = false ∧ tx ws i = [114, 101, 97, 100])) := by
      intro t
      unfold bSimple
      rw [if_neg he]
    clear h hW
    generalize bSimple ws (Dv ws) i j = B at *
    cases e0 : (tx ws i == [95]) with
    | true =>
      have HK : Hid (tx ws i = [95]) := eq_of_beq e0
      generalize tx ws i = y at *
      go_enter Tryz.func72, Tryz.ntmps72
      go_wp2_with fail
      refine (of_cut _ _ _ _ _).mono ?_
      rintro e w1 ⟨rfl, rfl⟩
      go_wp2_with fail
      go_ret
      refine ⟨_, rfl, .inr ⟨_, by rw [HB.out, if_pos HK.out], ?_⟩, (Cs.start HH.out).fr (by repeat (first | exact Fr.refl _ _ | (refine Fr.setCell ?_ (by first | exact .inl rfl | exact .inr (Nat.le_refl _) | (right; simp; omega)) _) | refine Fr.drewN ?_ _ | refine Fr.drew ?_ | refine Fr.alloc ?_ _))⟩
      refine HH.out.leaf ?_ (blk_at _ ?_)
      all_goals simp
    | false =>
      have HK : Hid (¬ tx ws i = [95]) := ne_of_beq_false e0
      obtain ⟨y, hy⟩ : ∃ y, y = tx ws i := ⟨_, rfl⟩
      have HY : Hid (y = tx ws i) := hy
      rw [← hy] at e0 d0
      clear hy
      go_enter Tryz.func72, Tryz.ntmps72
      go_wp2_with fail
      refine (atom1_cut (by omega) hj HH.out).mono ?_
      rintro e w1 ⟨p, rfl, hA, hC⟩
      rcases hA with ⟨rfl, hno⟩ | ⟨t, hD, hN⟩
      · go_wp2_with fail
        go_ret
        refine ⟨_, rfl, .inl ⟨rfl, fun t h => ?_⟩, hC⟩
        rw [HB.out, if_neg HK.out] at h
        exact hno t h.1
      · obtain ⟨k, n, nm, rfl, hk⟩ := one1_kind hD
        have HKK : Hid ((k = [114, 101, 97, 100]) ↔ ((wAt ws i).isName = false ∧ tx ws i = [114, 101, 97, 100])) := hk
        clear hk
        obtain ⟨b, rfl, hb, hlt⟩ := hN.ptr
        obtain ⟨hbl, hkk⟩ := hN.kind
        cases e1 : (k == [114, 101, 97, 100]) with
        | true =>
          have HKR : Hid (k = [114, 101, 97, 100]) := eq_of_beq e1
          have HD : Hid (one1 ws i (nd k n nm [] [] [])) := hD
          clear hD
          go_wp2_with fail
          go_ret
          refine ⟨_, rfl, .inl ⟨rfl, fun t h => ?_⟩, hC⟩
          rw [HB.out, if_neg HK.out] at h
          exact h.2 (HKK.out.1 HKR.out)
        | false =>
          have HKR : Hid (¬ k = [114, 101, 97, 100]) := ne_of_beq_false e1
          have HD : Hid (one1 ws i (nd k n nm [] [] [])) := hD
          clear hD
          go_wp2_with fail
          go_ret
          refine ⟨_, rfl, .inr ⟨_, ?_, hN⟩, hC⟩
          rw [HB.out, if_neg HK.out]
          exact ⟨HD.out, fun h => HKR.out (HKK.out.2 h)⟩
end Go.Proofs.YtnbhnjokpcdnnaaGreatDoor
