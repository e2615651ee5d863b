import Derived.Test.YtnbhnjokpcdnnaaDoorMA6
import Derived.Test.YtnbhnjokpcdnnaaDoorMA0
set_option linter.unusedVariables false
set_option linter.unusedSimpArgs false
namespace Go.Proofs.YtnbhnjokpcdnnaaDoor
open Go.RowKit

/-- What the finder may write. -/
def fown (q : Nat) (S M : Value) (b : Nat) : Prop := b = q ∨ S.ownBlock = some b ∨ M.ownBlock = some b

/-- The finder. -/
structure Fd (w : World) (q : Nat) (t : RS) (root : Int) (E P B : Value) (cE : List Value) (S M : Value) (sg : List Int) (wr : Bool) : Prop where
  blk : w.heap[q]? = some (.cells #[E, P, .int .i64 root, B, S, M, .bool wr] 66 (0, 0))
  tr : Tr w t E P B cE
  old : ∀ b, (E.ownBlock = some b ∨ P.ownBlock = some b ∨ B.ownBlock = some b ∨ Refs cE b) → b < q
  s : w.ownsRow (q + 1) 3 1 S sg.length (sg.map (.int .i64))
  m : ∃ ms : List Int, w.ownsRow (q + 1) 3 1 M t.exps.length (ms.map (.int .i64))
  sm : ∀ b, S.ownBlock = some b → M.ownBlock ≠ some b
  ok : ∀ v ∈ sg, bOk t v = true
  ne : t.exps.length ≤ 200000
  nb : t.bnds.length ≤ 200000

section
variable {w w' : World} {q : Nat} {t : RS} {root : Int} {E P B : Value} {cE : List Value} {S M : Value} {sg : List Int} {wr : Bool}

theorem Fd.lt (h : Fd w q t root E P B cE S M sg wr) : q < w.heap.size := (Array.getElem?_eq_some_iff.1 h.blk).1

theorem Fd.own_ge (h : Fd w q t root E P B cE S M sg wr) : ∀ b, fown q S M b → q ≤ b ∧ b < w.heap.size := by
  obtain ⟨ms, hm⟩ := h.m
  rintro b (rfl | hb | hb)
  · exact ⟨Nat.le_refl _, h.lt⟩
  · have := h.s.lt b hb; omega
  · have := hm.lt b hb; omega

theorem Tr.lt (h : Tr w t E P B cE) : ∀ b, (E.ownBlock = some b ∨ P.ownBlock = some b ∨ B.ownBlock = some b ∨ Refs cE b) → b < w.heap.size := by
  rintro b (hb | hb | hb | hb)
  · exact (h.e.lt b hb).2
  · exact (h.p.lt b hb).2
  · exact (h.b.lt b hb).2
  · exact (ExpsAt.lt _ _ h.eAt b hb).1

/-- Blocks that are not the finder's are written; the tree is older. -/
theorem Fd.frX {X : Nat → Prop} (h : Fd w q t root E P B cE S M sg wr) (hF : Fr X w w') (hX : ∀ b, X b → q < b ∧ ¬ fown q S M b) : Fd w' q t root E P B cE S M sg wr := by
  obtain ⟨ms, hm⟩ := h.m
  have hb : ∀ b, fown q S M b → w'.heap[b]? = w.heap[b]? := fun b hb => hF.block b (h.own_ge b hb).2 (fun hx => (hX b hx).2 hb)
  exact ⟨(hb q (.inl rfl)).trans h.blk, h.tr.keep fun b hb' => hF.block b (h.tr.lt b hb') (fun hx => by have := (hX b hx).1; have := h.old b hb'; omega), h.old,
    ownsRow_block h.s fun b h' => hb b (.inr (.inl h')), ⟨ms, ownsRow_block hm fun b h' => hb b (.inr (.inr h'))⟩, h.sm, h.ok, h.ne, h.nb⟩

theorem Fd.fr (h : Fd w q t root E P B cE S M sg wr) (hF : Fr (fun _ => False) w w') : Fd w' q t root E P B cE S M sg wr := h.frX hF (fun _ h => h.elim)

theorem Fd.cells (h : Fd w q t root E P B cE S M sg wr) :
    (w.cell? ⟨q, 0, none⟩ = some E ∧ w.cell? ⟨q, 1, none⟩ = some P ∧ w.cell? ⟨q, 3, none⟩ = some B ∧ w.cell? ⟨q, 4, none⟩ = some S ∧ w.cell? ⟨q, 5, none⟩ = some M ∧ w.cell? ⟨q, 6, none⟩ = some (.bool wr)) ∧ ∀ i, w.frozen? ⟨q, i, none⟩ = false := by
  have hb := h.blk
  refine ⟨⟨?_, ?_, ?_, ?_, ?_, ?_⟩, ?_⟩ <;> simp [World.cell?, World.frozen?, hb]
end

/-- How the finder stands in w, and what has become of the world since w0. -/
def Fx (q : Nat) (t : RS) (root : Int) (E P B : Value) (cE : List Value) (w0 : World) (S0 M0 : Value) (w : World) (S M : Value) (sg : List Int) (wr : Bool) : Prop :=
  Fd w q t root E P B cE S M sg wr ∧ Fr (fown q S0 M0) w0 w ∧ ∀ b, fown q S M b → fown q S0 M0 b ∨ w0.heap.size ≤ b

/-- Behind a step. -/
def Fn1 (q : Nat) (t : RS) (root : Int) (E P B : Value) (cE : List Value) (w : World) (S M : Value) (w' : World) (sg' : List Int) (wr' : Bool) : Prop :=
  ∃ S' M', Fx q t root E P B cE w S M w' S' M' sg' wr'

def Fns (q : Nat) (t : RS) (root : Int) (E P B : Value) (cE : List Value) (w0 : World) (S0 M0 : Value) (w : World) (S M : Value) (w' : World) (sg' : List Int) (wr' : Bool) : Prop :=
  ∃ S' M', Fx q t root E P B cE w0 S0 M0 w' S' M' sg' wr' ∧ Fr (fown q S M) w w' ∧ ∀ b, fown q S' M' b → fown q S M b ∨ w.heap.size ≤ b

section
variable {q : Nat} {t : RS} {root : Int} {E P B : Value} {cE : List Value} {w0 : World} {S0 M0 : Value} {w w' : World} {S M : Value} {sg sg' : List Int} {wr wr' : Bool}

theorem Fx.start (h : Fd w q t root E P B cE S M sg wr) : Fx q t root E P B cE w S M w S M sg wr := ⟨h, Fr.refl _ _, fun _ h => .inl h⟩

theorem Fx.go (h : Fx q t root E P B cE w0 S0 M0 w S M sg wr) (hN : Fn1 q t root E P B cE w S M w' sg' wr') : Fns q t root E P B cE w0 S0 M0 w S M w' sg' wr' := by
  obtain ⟨S1, M1, hR, hF, hO⟩ := hN
  refine ⟨S1, M1, ⟨hR, h.2.1.trans hF h.2.2, fun b hb => ?_⟩, hF, hO⟩
  rcases hO b hb with h1 | h1
  · exact h.2.2 b h1
  · have := h.2.1.size; right; omega

theorem Fx.n1 (h : Fx q t root E P B cE w0 S0 M0 w S M sg wr) : Fn1 q t root E P B cE w0 S0 M0 w sg wr := ⟨S, M, h⟩

theorem Fx.fr (h : Fx q t root E P B cE w0 S0 M0 w S M sg wr) (hF : Fr (fun _ => False) w w') : Fx q t root E P B cE w0 S0 M0 w' S M sg wr := ⟨h.1.fr hF, h.2.1.trans hF (fun _ h => h.elim), h.2.2⟩

/-- A block that is not the finder's lies as it lay. -/
def FLoc (q : Nat) (S M : Value) (l : Nat) : Prop := q < l ∧ ¬ fown q S M l

theorem Fx.loc (h : Fx q t root E P B cE w0 S0 M0 w S M sg wr) {l : Nat} (hl : w.heap.size ≤ l) : FLoc q S M l :=
  ⟨by have := h.1.lt; omega, fun h' => by have := (h.1.own_ge l h').2; omega⟩

theorem FLoc.next {S' M' : Value} {l : Nat} (h : FLoc q S M l) (hl : l < w.heap.size) (hO : ∀ b, fown q S' M' b → fown q S M b ∨ w.heap.size ≤ b) : FLoc q S' M' l :=
  ⟨h.1, fun h' => by rcases hO l h' with h1 | h1; exact h.2 h1; omega⟩

theorem FLoc.blk {l : Nat} {o : Obj} (h : FLoc q S M l) (hF : Fr (fown q S M) w w') (hb : w.heap[l]? = some o) : w'.heap[l]? = some o :=
  (hF.block l (blk_lt hb) h.2).trans hb

/-- The mark is set. -/
theorem Fx.mark (h : Fx q t root E P B cE w0 S0 M0 w S M sg wr) : Fx q t root E P B cE w0 S0 M0 (w.setCell ⟨q, 6, none⟩ (.bool true)) S M sg true := by
  obtain ⟨hR, h2, h3⟩ := h
  obtain ⟨ms, hm⟩ := hR.m
  have hF : Fr (fun b => b = q) w (w.setCell ⟨q, 6, none⟩ (.bool true)) := (by repeat (first | with_reducible exact Fr.refl _ _ | (with_reducible refine Fr.drew ?_) | (with_reducible refine Fr.drewN ?_ _) | (with_reducible refine Fr.alloc ?_ _) | ((with_reducible refine Fr.setCell ?_ ?_ _); rotate_left; first | exact .inl rfl | exact .inr (Nat.le_refl _) | exact .inl (Nat.le_refl _) | (focus (left; simp; done)) | (focus (left; simp; omega)) | (focus (left; omega)) | (focus (right; simp; done)) | (focus (right; simp; omega)) | (focus (right; omega))) | exact Fr.refl _ _))
  refine ⟨⟨blk_set hR.blk (by simp), hR.tr.keep fun b hb => hF.block b (hR.tr.lt b hb) (by have := hR.old b hb; omega), hR.old, ownsRow_block hR.s fun b hb => hF.block b (hR.s.lt b hb).2 (by have := (hR.s.lt b hb).1; omega),
    ⟨ms, ownsRow_block hm fun b hb => hF.block b (hm.lt b hb).2 (by have := (hm.lt b hb).1; omega)⟩, hR.sm, hR.ok, hR.ne, hR.nb⟩, ?_, h3⟩
  exact h2.trans hF (fun i hi => by subst hi; rcases h3 i (.inl rfl) with h1 | h1; exact .inl h1; exact .inr h1)

/-- What is in sight is put in place of what was; nothing else is written but the row of what was in sight. -/
theorem Fx.sight {w1 w2 : World} {S' : Value} (h : Fx q t root E P B cE w0 S0 M0 w S M sg wr) (hF : Fr (fun _ => False) w w1) (hg : w1.grownBy w2 S.ownBlock) (hs : w2.ownsRow (q + 1) 3 1 S' sg'.length (sg'.map (.int .i64)))
    (hv : S'.ownBlock = S.ownBlock ∨ S'.ownBlock = some w1.heap.size) (hok : ∀ v ∈ sg', bOk t v = true) : Fx q t root E P B cE w0 S0 M0 (w2.setCell ⟨q, 4, none⟩ S') S' M sg' wr := by
  obtain ⟨hR, h2, h3⟩ := h
  obtain ⟨ms, hm⟩ := hR.m
  have hsz := hF.size
  have hF2 : Fr (fun b => S.ownBlock = some b) w w2 := (hF.mono (fun _ h => h.elim)).grown hg (fun k hk => .inl hk)
  have hF3 : Fr (fun b => b = q ∨ S.ownBlock = some b) w (w2.setCell ⟨q, 4, none⟩ S') := (hF2.mono (fun _ h => .inl (.inr h))).setCell (.inl (.inl rfl)) _
  have hnq : S.ownBlock ≠ some q := fun e => by have := (hR.s.lt q e).1; omega
  have hnew : ∀ b, S'.ownBlock = some b → S.ownBlock = some b ∨ w.heap.size ≤ b := fun b hb => by
    rcases hv with h1 | h1
    · exact .inl (h1 ▸ hb)
    · rw [h1] at hb; cases hb; exact .inr hsz
  refine ⟨⟨blk_set ((hF2.block q hR.lt hnq).trans hR.blk) (by simp), hR.tr.keep fun b hb => hF3.block b (hR.tr.lt b hb) ?_, hR.old, ?_, ⟨ms, ownsRow_block hm fun b hb => hF3.block b (hm.lt b hb).2 ?_⟩, ?_, hok, hR.ne, hR.nb⟩, ?_, ?_⟩
  · have := hR.old b hb
    rintro (h1 | h1)
    · omega
    · have := (hR.s.lt b h1).1; omega
  · exact ownsRow_block hs fun b hb => Below.heap_setCell _ _ _ _ (by have := (hs.lt b hb).1; show b ≠ q; omega)
  · have := (hm.lt b hb).1
    rintro (h1 | h1)
    · omega
    · exact hR.sm b h1 hb
  · intro b hb hb'
    rcases hnew b hb with h1 | h1
    · exact hR.sm b h1 hb'
    · have := (hm.lt b hb').2; omega
  · exact h2.trans hF3 (fun i hi => by rcases hi with rfl | hi; exact h3 _ (.inl rfl); exact h3 _ (.inr (.inl hi)))
  · rintro b (rfl | hb | hb)
    · exact h3 _ (.inl rfl)
    · rcases hnew b hb with h1 | h1
      · exact h3 _ (.inr (.inl h1))
      · have := h2.size; right; omega
    · exact h3 _ (.inr (.inr hb))
end

end Go.Proofs.YtnbhnjokpcdnnaaDoor

namespace Go.Proofs.YtnbhnjokpcdnnaaDoor
open Go.RowKit

/-- An element of a row of numbers. -/
theorem rowInt {w : World} {base : Nat} {e : TypeId} {v : Value} {l : List Int} (h : w.ownsRow base e 1 v l.length (l.map (.int .i64))) {j : Nat} (hj : j < l.length) :
    ∃ g cap, v = .slice (some ⟨g, 0, none⟩) l.length cap ∧ w.cell? ⟨g, j, none⟩ = some (.int .i64 (l.getD j 0)) ∧ g < w.heap.size := by
  rcases h.2 with ⟨_, h0⟩ | ⟨g, cap, cur, rfl, hg⟩
  · omega
  · refine ⟨g, cap, rfl, ?_, (h.lt g rfl).2⟩
    rw [World.ownsRow.cellAt h j (by omega)]
    simp [hj]

theorem Fd.name {w : World} {q : Nat} {t : RS} {root : Int} {E P B : Value} {cE : List Value} {S M : Value} {sg : List Int} {wr : Bool} (h : Fd w q t root E P B cE S M sg wr) {v : Int} (hv : bOk t v = true) :
    ∃ g cap n, B = .slice (some ⟨g, 0, none⟩) t.bnds.length cap ∧ w.cell? ⟨g, n, none⟩ = some (.int .i64 (nm t v)) ∧ v = (n : Int) ∧ n < t.bnds.length := by
  simp only [bOk, Bool.and_eq_true, decide_eq_true_eq] at hv
  obtain ⟨g, cap, h1, h2, _⟩ := rowInt h.tr.b hv.2
  exact ⟨g, cap, v.toNat, h1, h2, by omega, hv.2⟩

theorem or_inner {bad : Bool} {t : RS} {sg : List Int} {name : Int} {j : Nat} (hj : j < sg.length) (h : nm t (sg.getD j 0) = name) : (bad || fInner t sg name) = bad := by
  have : fInner t sg name = false := by
    simp only [fInner, Bool.not_eq_false', List.any_eq_true, beq_iff_eq]
    exact ⟨sg[j], List.getElem_mem hj, by simpa [hj] using h⟩
  simp [this]

theorem inner_true {t : RS} {sg : List Int} {name : Int} (h : ∀ j, 0 ≤ j → j < sg.length → nm t (sg.getD j 0) ≠ name) : fInner t sg name = true := by
  simp only [fInner, Bool.not_eq_true', List.any_eq_false, beq_iff_eq]
  intro v hv
  obtain ⟨j, hj, rfl⟩ := List.mem_iff_getElem.1 hv
  simpa [hj] using h j (Nat.zero_le _) hj

theorem getD_mem {sg : List Int} {j : Nat} (hj : j < sg.length) : sg.getD j 0 ∈ sg := by
  simp [hj]

set_option maxHeartbeats 1600000 in
set_option maxRecDepth 100000 in
theorem innermost_any (q : Nat) (t : RS) (root : Int) (E P B : Value) (cE : List Value) (S M : Value) (sg : List Int) (bad : Bool) (name : Int) (w : World) (h : Fd w q t root E P B cE S M sg bad) :
    Calls Tryd.prog 33 #[.pointer (some ⟨q, 0, none⟩), .int .i64 name] w fun e w' => ∃ r, e = .returned (.int .i64 r) ∧ Fn1 q t root E P B cE w S M w' sg (bad || fInner t sg name) := by
  have hX := Fx.start h
  obtain ⟨⟨c0, c1, c3, c4, c5, c6⟩, hf⟩ := h.cells
  obtain ⟨sa, sc, rfl⟩ := ownsRow_len h.s
  have hnb := h.nb
  have hsl : sg.length ≤ 9223372036854775807 := by
    rcases h.s.2 with ⟨_, h0⟩ | ⟨g, cap, cur, _, _, _, h1, h2, _⟩
    · omega
    · unfold maxLen at h2; omega
  clear h
  go_enter Tryd.func33, Tryd.ntmps33
  go_wp2_with fail
  go_loopg [5] sg.length (fun k i wr' => ∃ iv : Int, i = .int .i64 iv ∧ iv = (k : Int) - 1 ∧ k ≤ sg.length ∧ (∀ j, k ≤ j → j < sg.length → nm t (sg.getD j 0) ≠ name) ∧ Fx q t root E P B cE w (.slice sa sg.length sc) M wr' (.slice sa sg.length sc) M sg bad)
  case atStart => exact ⟨_, rfl, rfl, Nat.le_refl _, fun j h1 h2 => by omega, hX⟩
  case round =>
    obtain ⟨iv, rfl, hiv, hk, hno, hX'⟩ := hrel
    clear hX c0 c1 c3 c4 c5 c6 hf
    obtain ⟨⟨-, -, c3, c4, -, c6⟩, hf⟩ := hX'.1.cells
    have hq := hX'.1.lt
    cases gk with
    | zero =>
      obtain rfl : iv = -1 := by omega
      have HG : Hid ((bad || fInner t sg name) = true) := by show _ = _; rw [inner_true hno, Bool.or_true]
      have f6 := hf 6
      clear hno hf hiv
      go_wp2_with fail
      go_ret
      rw [HG.out]
      exact ⟨_, rfl, hX'.mark.n1⟩
    | succ k =>
      obtain rfl : iv = (k : Int) := by omega
      obtain ⟨g, cap, hS, hc, hg⟩ := rowInt hX'.1.s (j := k) (by omega)
      cases hS
      obtain ⟨bg, bcap, n, rfl, hcb, hvn, hn⟩ := hX'.1.name (hX'.1.ok _ (getD_mem (by omega : k < sg.length)))
      have HV : Hid (sg.getD k 0 = (n : Int)) := hvn
      rw [hvn] at hc
      by_cases hm : nm t (sg.getD k 0) = name
      · have HG := or_inner (bad := bad) (by omega : k < sg.length) hm
        have HG' : Hid ((bad || fInner t sg name) = bad) := HG
        rw [hm] at hcb
        clear hno hf hiv HG hm hvn
        go_wp2
        go_quiet (fail)
        go_wp2
        go_ret
        rw [HG'.out]
        exact ⟨_, rfl, (hX'.fr (by repeat (first | with_reducible exact Fr.refl _ _ | (with_reducible refine Fr.drew ?_) | (with_reducible refine Fr.drewN ?_ _) | (with_reducible refine Fr.alloc ?_ _) | ((with_reducible refine Fr.setCell ?_ ?_ _); rotate_left; first | exact .inl rfl | exact .inr (Nat.le_refl _) | exact .inl (Nat.le_refl _) | (focus (left; simp; done)) | (focus (left; simp; omega)) | (focus (left; omega)) | (focus (right; simp; done)) | (focus (right; simp; omega)) | (focus (right; omega))) | exact Fr.refl _ _))).n1⟩
      · have HN : Hid (∀ j, k ≤ j → j < sg.length → nm t (sg.getD j 0) ≠ name) := by
          intro j h1 h2
          by_cases hj : j = k
          · subst hj; exact hm
          · exact hno j (by omega) h2
        have hne : (nm t (sg.getD k 0) == name) = false := by simpa using hm
        generalize nm t (sg.getD k 0) = vv at *
        clear hno hf hiv hm hvn
        go_wp2
        go_quiet (fail)
        go_wp2
        go_roundg k
        case measure => omega
        case rel => exact ⟨_, rfl, rfl, by omega, HN.out, hX'.fr (by repeat (first | with_reducible exact Fr.refl _ _ | (with_reducible refine Fr.drew ?_) | (with_reducible refine Fr.drewN ?_ _) | (with_reducible refine Fr.alloc ?_ _) | ((with_reducible refine Fr.setCell ?_ ?_ _); rotate_left; first | exact .inl rfl | exact .inr (Nat.le_refl _) | exact .inl (Nat.le_refl _) | (focus (left; simp; done)) | (focus (left; simp; omega)) | (focus (left; omega)) | (focus (right; simp; done)) | (focus (right; simp; omega)) | (focus (right; omega))) | exact Fr.refl _ _))⟩

end Go.Proofs.YtnbhnjokpcdnnaaDoor

namespace Go.Proofs.YtnbhnjokpcdnnaaDoor
open Go.RowKit

def bAcc (t : RS) (outer : Nat) (b : Int) (sg : List Int) (k : Nat) : Bool := ((sg.take k).drop outer).any fun v => nm t v == nm t b

theorem bAcc_start (t : RS) (outer : Nat) (b : Int) (sg : List Int) : bAcc t outer b sg outer = false := by
  simp [bAcc, List.drop_eq_nil_of_le (List.length_take_le _ _)]

theorem bAcc_end (t : RS) (outer : Nat) (b : Int) (sg : List Int) : bAcc t outer b sg sg.length = (sg.drop outer).any fun v => nm t v == nm t b := by
  simp [bAcc]

theorem bAcc_next (t : RS) (outer : Nat) (b : Int) (sg : List Int) (k : Nat) (h1 : outer ≤ k) (h2 : k < sg.length) : bAcc t outer b sg (k + 1) = (bAcc t outer b sg k || (nm t (sg.getD k 0) == nm t b)) := by
  unfold bAcc
  rw [List.take_succ_eq_append_getElem h2, List.drop_append_of_le_length (by simp; omega), List.any_append]
  simp [h2]

theorem Fx.bnd {q : Nat} {t : RS} {root : Int} {E P B : Value} {cE : List Value} {w0 : World} {S0 M0 : Value} {w : World} {S M : Value} {sg : List Int} {bad : Bool} (h : Fx q t root E P B cE w0 S0 M0 w S M sg bad) {b : Int} (hb : bOk t b = true) : ∀ v ∈ sg ++ [b], bOk t v = true := by
  intro v hv
  rcases List.mem_append.1 hv with h1 | h1
  · exact h.1.ok v h1
  · simp at h1; subst h1; exact hb

set_option maxHeartbeats 1600000 in
set_option maxRecDepth 100000 in
theorem bindOnce_any (q : Nat) (t : RS) (root : Int) (E P B : Value) (cE : List Value) (S M : Value) (sg : List Int) (bad : Bool) (outer : Nat) (b : Int) (x : List Int × Bool) (w : World) (h : Fd w q t root E P B cE S M sg bad)
    (ho : outer ≤ sg.length) (hx : fBind t outer b sg = some x) :
    Calls Tryd.prog 49 #[.pointer (some ⟨q, 0, none⟩), .int .i64 outer, .int .i64 b] w fun e w' => e = .returned (.tuple #[]) ∧ Fn1 q t root E P B cE w S M w' x.1 (bad || x.2) := by
  unfold fBind at hx
  split at hx
  case isFalse => cases hx
  case isTrue hc =>
  simp only [Bool.and_eq_true, decide_eq_true_eq] at hc
  obtain ⟨hb, hlen⟩ := hc
  have Hx : Hid (x = (sg ++ [b], (sg.drop outer).any fun v => nm t v == nm t b)) := by show x = _; simpa using hx.symm
  have Hb : Hid (bOk t b = true) := hb
  obtain ⟨bg, bcap, n, rfl, -, hbn, hn⟩ := h.name hb
  have hX := Fx.start h
  obtain ⟨sa, sc, rfl⟩ := ownsRow_len h.s
  have hnb := h.nb
  have HBN : Hid (b = (n : Int)) := hbn
  subst hbn
  clear hx hb h
  go_enter Tryd.func49, Tryd.ntmps49
  go_wp2_with fail
  go_loopg [6] (sg.length - outer) (fun m i wr' => ∃ k : Nat, i = .int .i64 k ∧ outer ≤ k ∧ k ≤ sg.length ∧ m = sg.length - k ∧ Fx q t root E P (.slice (some ⟨bg, 0, none⟩) t.bnds.length bcap) cE w (.slice sa sg.length sc) M wr' (.slice sa sg.length sc) M sg (bad || bAcc t outer n sg k))
  case atStart => exact ⟨outer, rfl, Nat.le_refl _, ho, rfl, by rw [bAcc_start, Bool.or_false]; exact hX⟩
  case round =>
    obtain ⟨k, rfl, hk1, hk2, hm, hX'⟩ := hrel
    have HM : Hid (gk = sg.length - k) := hm
    clear hX hm
    obtain ⟨⟨-, -, c3, c4, -, c6⟩, hf⟩ := hX'.1.cells
    have hq := hX'.1.lt
    have f6 := hf 6
    have f4 := hf 4
    clear hf
    by_cases hlt : k < sg.length
    · obtain ⟨g, cap, hS, hc, hg⟩ := rowInt hX'.1.s (j := k) hlt
      cases hS
      obtain ⟨bg', bcap', n', hB', hcb, hvn, hn'⟩ := hX'.1.name (hX'.1.ok _ (getD_mem hlt))
      cases hB'
      obtain ⟨bg'', bcap'', n'', hB'', hcb2, hvn2, hn2⟩ := hX'.1.name Hb.out
      cases hB''
      obtain rfl : n = n'' := by omega
      rw [hvn] at hc
      have HA : Hid (bAcc t outer n sg (k + 1) = (bAcc t outer n sg k || (nm t (sg.getD k 0) == nm t n))) := bAcc_next t outer n sg k hk1 hlt
      cases hm : (nm t (sg.getD k 0) == nm t n) with
      | true =>
        have HR : Hid ((bad || bAcc t outer n sg (k + 1)) = true) := by show _ = _; rw [HA.out, hm]; simp
        clear hvn HBN hvn2
        generalize nm t (sg.getD k 0) = v1 at *
        generalize nm t (n : Int) = v2 at *
        go_wp2
        go_quiet (fail)
        go_wp2
        go_roundg (sg.length - (k + 1))
        case measure => rw [HM.out]; omega
        case rel => exact ⟨k + 1, by go_num, by omega, by omega, rfl, by rw [HR.out]; exact (hX'.fr (by repeat (first | with_reducible exact Fr.refl _ _ | (with_reducible refine Fr.drew ?_) | (with_reducible refine Fr.drewN ?_ _) | (with_reducible refine Fr.alloc ?_ _) | ((with_reducible refine Fr.setCell ?_ ?_ _); rotate_left; first | exact .inl rfl | exact .inr (Nat.le_refl _) | exact .inl (Nat.le_refl _) | (focus (left; simp; done)) | (focus (left; simp; omega)) | (focus (left; omega)) | (focus (right; simp; done)) | (focus (right; simp; omega)) | (focus (right; omega))) | exact Fr.refl _ _))).mark⟩
      | false =>
        have HR : Hid ((bad || bAcc t outer n sg (k + 1)) = (bad || bAcc t outer n sg k)) := by show _ = _; rw [HA.out, hm]; simp
        clear hvn HBN hvn2
        generalize nm t (sg.getD k 0) = v1 at *
        generalize nm t (n : Int) = v2 at *
        go_wp2
        go_quiet (fail)
        go_wp2
        go_roundg (sg.length - (k + 1))
        case measure => rw [HM.out]; omega
        case rel => exact ⟨k + 1, by go_num, by omega, by omega, rfl, by rw [HR.out]; exact hX'.fr (by repeat (first | with_reducible exact Fr.refl _ _ | (with_reducible refine Fr.drew ?_) | (with_reducible refine Fr.drewN ?_ _) | (with_reducible refine Fr.alloc ?_ _) | ((with_reducible refine Fr.setCell ?_ ?_ _); rotate_left; first | exact .inl rfl | exact .inr (Nat.le_refl _) | exact .inl (Nat.le_refl _) | (focus (left; simp; done)) | (focus (left; simp; omega)) | (focus (left; omega)) | (focus (right; simp; done)) | (focus (right; simp; omega)) | (focus (right; omega))) | exact Fr.refl _ _))⟩
    · obtain rfl : k = sg.length := by omega
      have hS := hX'.1.s
      have HSr : Hid (∀ b, (Value.slice sa sg.length sc).ownBlock = some b → q + 1 ≤ b) := fun b hb => (hS.lt b hb).1
      have HX : Hid (Fx q t root E P (.slice (some ⟨bg, 0, none⟩) t.bnds.length bcap) cE w (.slice sa sg.length sc) M wr (.slice sa sg.length sc) M sg (bad || bAcc t outer n sg sg.length)) := hX'
      clear hX' HBN
      go_wp2_with (at_builtin; refine wpList_app slInt rfl (.tmp 47) (.tmp 49) rfl (q + 1) sg.length (sg.map (.int .i64)) _ rfl (hS.alloc _) ⟨wr.heap.size, 0, none⟩ 1 1 [.int .i64 n] rfl rfl ?c1 ?c2 (by decide) ?b1 ?b2 ?b3 ?grow)
      case c1 => intro j u hj; match j, hj with | 0, hj => simp at hj; subst hj; simp [Addr.add]
      case c2 => intro u hu; simp at hu; rcases hu with rfl; rfl
      case b1 => unfold maxLen; omega
      case b2 => omega
      case b3 => simp; omega
      case grow =>
        intro v' w3 hown hgrow hv g' cap hfm
        subst hfm
        obtain ⟨k4, g4⟩ := grown_at hq (by exact ((Fr.refl _ wr).alloc _)) hgrow HSr.out 4
        rw [c4] at k4
        rw [f4] at g4
        have HN : Hid (Fx q t root E P (.slice (some ⟨bg, 0, none⟩) t.bnds.length bcap) cE w (.slice sa sg.length sc) M (w3.setCell ⟨q, 4, none⟩ (.slice (some ⟨g', 0, none⟩) (sg.length + 1) cap)) (.slice (some ⟨g', 0, none⟩) (sg.length + 1) cap) M (sg ++ [(n : Int)]) (bad || bAcc t outer n sg sg.length)) := HX.out.sight (by exact ((Fr.refl _ wr).alloc _)) hgrow (by simpa using hown) (by simpa using hv) (HX.out.bnd Hb.out)
        clear hown hgrow hv HX
        go_wp2_with fail
        go_end0
        rw [Hx.out, ← bAcc_end]
        exact ⟨rfl, HN.out.n1⟩

end Go.Proofs.YtnbhnjokpcdnnaaDoor

namespace Go.Proofs.YtnbhnjokpcdnnaaDoor
open Go.RowKit

theorem fBind_pre {t : RS} {outer : Nat} {b : Int} {sg : List Int} {x : List Int × Bool} (h : fBind t outer b sg = some x) : x.1 = sg ++ [b] := by
  unfold fBind at h
  split at h
  · cases h; rfl
  · cases h

theorem fPat_pre {t : RS} {outer : Nat} : ∀ (n : Nat) (i : Int) (sg : List Int) (x : List Int × Bool), fPat t outer n i sg = some x → ∃ l, x.1 = sg ++ l
  | 0, _, _, _, h => by simp [fPat] at h
  | n + 1, i, sg, x, h => by
    unfold fPat at h
    obtain ⟨p, _, h⟩ := Option.bind_eq_some_iff.1 h
    split at h
    · exact ⟨_, fBind_pre h⟩
    split at h
    · obtain ⟨y, hy, h⟩ := Option.bind_eq_some_iff.1 h
      obtain ⟨z, hz, h⟩ := Option.bind_eq_some_iff.1 h
      cases h
      obtain ⟨l1, h1⟩ := fPat_pre n _ _ _ hy
      obtain ⟨l2, h2⟩ := fPat_pre n _ _ _ hz
      exact ⟨l1 ++ l2, by rw [h2, h1, List.append_assoc]⟩
    · cases h; exact ⟨[], by simp⟩

theorem patCells_at : ∀ (l : List PT) (i : Nat) (h : i < l.length), (patCells l)[i * 5]? = some (.int .i64 l[i].kind) ∧ (patCells l)[i * 5 + 1]? = some (.int .i64 l[i].num) ∧ (patCells l)[i * 5 + 2]? = some (.int .i64 l[i].binder) ∧ (patCells l)[i * 5 + 3]? = some (.int .i64 l[i].first) ∧ (patCells l)[i * 5 + 4]? = some (.int .i64 l[i].second)
  | [], _, h => by cases h
  | a :: l, 0, _ => by simp [patCells]
  | a :: l, i + 1, h => by
    have := patCells_at l i (by simpa using h)
    have e : patCells (a :: l) = .int .i64 a.kind :: .int .i64 a.num :: .int .i64 a.binder :: .int .i64 a.first :: .int .i64 a.second :: patCells l := by simp [patCells]
    rw [e, show (i + 1) * 5 = i * 5 + 5 by omega]
    simpa using this

/-- A pattern, as it lies. -/
theorem Fd.pat {w : World} {q : Nat} {t : RS} {root : Int} {E P B : Value} {cE : List Value} {S M : Value} {sg : List Int} {bad : Bool} (h : Fd w q t root E P B cE S M sg bad) {i : Int} {p : PT} (hp : patAt t i = some p) :
    ∃ (g cap n : Nat), P = .slice (some ⟨g, 0, none⟩) t.pats.length cap ∧ i = (n : Int) ∧ n < t.pats.length ∧ g < w.heap.size ∧ w.cell? ⟨g, n * 5, none⟩ = some (.int .i64 p.kind) ∧ w.cell? ⟨g, n * 5 + 1, none⟩ = some (.int .i64 p.num) ∧ w.cell? ⟨g, n * 5 + 2, none⟩ = some (.int .i64 p.binder) ∧
      w.cell? ⟨g, n * 5 + 3, none⟩ = some (.int .i64 p.first) ∧ w.cell? ⟨g, n * 5 + 4, none⟩ = some (.int .i64 p.second) := by
  unfold patAt at hp
  split at hp
  case isFalse => cases hp
  case isTrue h0 =>
  obtain ⟨hlt, rfl⟩ := List.getElem?_eq_some_iff.1 hp
  have hl := h.tr.p
  rcases hl.2 with ⟨_, h0⟩ | ⟨g, cap, cur, rfl, hg⟩
  · omega
  · have := patCells_at t.pats i.toNat hlt
    refine ⟨g, cap, i.toNat, rfl, by omega, hlt, (hl.lt g rfl).2, ?_, ?_, ?_, ?_, ?_⟩
    · rw [World.ownsRow.cellAt hl _ (by omega)]; exact this.1
    · rw [World.ownsRow.cellAt hl _ (by omega)]; exact this.2.1
    · rw [World.ownsRow.cellAt hl _ (by omega)]; exact this.2.2.1
    · rw [World.ownsRow.cellAt hl _ (by omega)]; exact this.2.2.2.1
    · rw [World.ownsRow.cellAt hl _ (by omega)]; exact this.2.2.2.2

theorem cells5 {w : World} {l : Nat} {a b c d e : Value} {t : TypeId} (h : w.heap[l]? = some (.cells #[a, b, c, d, e] t (0, 0))) :
    w.cell? ⟨l, 0, none⟩ = some a ∧ w.cell? ⟨l, 1, none⟩ = some b ∧ w.cell? ⟨l, 2, none⟩ = some c ∧ w.cell? ⟨l, 3, none⟩ = some d ∧ w.cell? ⟨l, 4, none⟩ = some e := by
  simp [World.cell?, h]

def FPt (t : RS) (outer : Nat) (i : Int) (sg : List Int) (x : List Int × Bool) : Prop :=
  ∀ (q : Nat) (root : Int) (E P B : Value) (cE : List Value) (S M : Value) (bad : Bool) (w : World), Fd w q t root E P B cE S M sg bad → outer ≤ sg.length →
    Calls Tryd.prog 50 #[.pointer (some ⟨q, 0, none⟩), .int .i64 outer, .int .i64 i] w fun e w' => e = .returned (.tuple #[]) ∧ Fn1 q t root E P B cE w S M w' x.1 (bad || x.2)

section
variable {q : Nat} {t : RS} {root : Int} {E P B : Value} {cE : List Value} {w0 : World} {S0 M0 : Value} {w : World} {S M : Value} {sg : List Int} {bad : Bool}

theorem Fx.bindOnce (h : Fx q t root E P B cE w0 S0 M0 w S M sg bad) {outer : Nat} {b : Int} {x : List Int × Bool} (ho : outer ≤ sg.length) (hx : fBind t outer b sg = some x) :
    Calls Tryd.prog 49 #[.pointer (some ⟨q, 0, none⟩), .int .i64 outer, .int .i64 b] w fun e w' => e = .returned (.tuple #[]) ∧ Fns q t root E P B cE w0 S0 M0 w S M w' x.1 (bad || x.2) :=
  (bindOnce_any q t root E P B cE S M sg bad outer b x w h.1 ho hx).mono fun _ _ hh => ⟨hh.1, h.go hh.2⟩

theorem Fx.pat (h : Fx q t root E P B cE w0 S0 M0 w S M sg bad) {outer : Nat} {i : Int} {x : List Int × Bool} (ho : outer ≤ sg.length) (hx : FPt t outer i sg x) :
    Calls Tryd.prog 50 #[.pointer (some ⟨q, 0, none⟩), .int .i64 outer, .int .i64 i] w fun e w' => e = .returned (.tuple #[]) ∧ Fns q t root E P B cE w0 S0 M0 w S M w' x.1 (bad || x.2) :=
  (hx q root E P B cE S M bad w h.1 ho).mono fun _ _ hh => ⟨hh.1, h.go hh.2⟩
end

set_option maxHeartbeats 3200000 in
set_option maxRecDepth 100000 in
theorem w_fpat (t : RS) (outer : Nat) (n : Nat) (ih : ∀ i sg x, fPat t outer n i sg = some x → FPt t outer i sg x) (i : Int) (sg : List Int) (x : List Int × Bool) (h : fPat t outer (n + 1) i sg = some x) : FPt t outer i sg x := by
  intro q root E P B cE S M bad w hd ho
  unfold fPat at h
  obtain ⟨p, hp, hh⟩ := Option.bind_eq_some_iff.1 h
  clear h
  obtain ⟨⟨-, c1, -, -, -, -⟩, -⟩ := hd.cells
  have hq := hd.lt
  obtain ⟨g, cap, m, rfl, rfl, hm, hg, d0, d1, d2, d3, d4⟩ := hd.pat hp
  have hX := Fx.start hd
  have hlo := hX.loc (Nat.le_refl _)
  have hpl : t.pats.length ≤ 9223372036854775807 := by
    rcases hd.tr.p.2 with ⟨_, h0⟩ | ⟨g', cap', cur', h1, _, _, h2, h3, _⟩
    · omega
    · unfold maxLen at h3; omega
  clear hd hp
  split at hh
  · rename_i hk
    go_enter Tryd.func50, Tryd.ntmps50
    go_wp2_with fail
    refine ((hX.fr (by repeat (first | with_reducible exact Fr.refl _ _ | (with_reducible refine Fr.drew ?_) | (with_reducible refine Fr.drewN ?_ _) | (with_reducible refine Fr.alloc ?_ _) | ((with_reducible refine Fr.setCell ?_ ?_ _); rotate_left; first | exact .inl rfl | exact .inr (Nat.le_refl _) | exact .inl (Nat.le_refl _) | (focus (left; simp; done)) | (focus (left; simp; omega)) | (focus (left; omega)) | (focus (right; simp; done)) | (focus (right; simp; omega)) | (focus (right; omega))) | exact Fr.refl _ _))).bindOnce ho hh).mono ?_
    rintro e w1 ⟨rfl, S1, M1, hX1, -, -⟩
    clear hX
    go_wp2_with fail
    go_end0
    exact ⟨rfl, hX1.n1⟩
  rename_i hk
  split at hh
  · rename_i hk2
    obtain ⟨y, hy, hh⟩ := Option.bind_eq_some_iff.1 hh
    obtain ⟨z, hz, hh⟩ := Option.bind_eq_some_iff.1 hh
    have Hx : Hid (x = (z.1, y.2 || z.2)) := by show x = _; simpa using hh.symm
    obtain ⟨ly, hly⟩ := fPat_pre _ _ _ _ hy
    have HO : Hid (outer ≤ y.1.length) := by show outer ≤ _; rw [hly, List.length_append]; omega
    clear hh hly
    rcases hk2 with hk2 | hk2
    all_goals
      go_enter Tryd.func50, Tryd.ntmps50
      go_wp2_with fail
      refine ((hX.fr (by repeat (first | with_reducible exact Fr.refl _ _ | (with_reducible refine Fr.drew ?_) | (with_reducible refine Fr.drewN ?_ _) | (with_reducible refine Fr.alloc ?_ _) | ((with_reducible refine Fr.setCell ?_ ?_ _); rotate_left; first | exact .inl rfl | exact .inr (Nat.le_refl _) | exact .inl (Nat.le_refl _) | (focus (left; simp; done)) | (focus (left; simp; omega)) | (focus (left; omega)) | (focus (right; simp; done)) | (focus (right; simp; omega)) | (focus (right; omega))) | exact Fr.refl _ _))).pat ho (ih _ _ _ hy)).mono ?_
      rintro e w1 ⟨rfl, S1, M1, hX1, hF1, hO1⟩
      have hb1 := hlo.blk hF1 (blk_new w _)
      obtain ⟨-, -, -, -, m4⟩ := cells5 hb1
      clear hX hF1 hO1 hb1
      go_wp2_with fail
      refine (hX1.pat HO.out (ih _ _ _ hz)).mono ?_
      rintro e w2 ⟨rfl, S2, M2, hX2, -, -⟩
      clear hX1
      go_wp2_with fail
      go_end0
      rw [Hx.out, ← Bool.or_assoc]
      exact ⟨rfl, hX2.n1⟩
  · rename_i hk2
    have Hx : Hid (x = (sg, false)) := by show x = _; simpa using hh.symm
    have hk7 : ¬ p.kind = 7 := fun h => hk2 (.inl h)
    have hk8 : ¬ p.kind = 8 := fun h => hk2 (.inr h)
    clear hh hk2
    go_enter Tryd.func50, Tryd.ntmps50
    go_wp2_with fail
    go_end0
    rw [Hx.out, Bool.or_false]
    exact ⟨rfl, (hX.fr (by repeat (first | with_reducible exact Fr.refl _ _ | (with_reducible refine Fr.drew ?_) | (with_reducible refine Fr.drewN ?_ _) | (with_reducible refine Fr.alloc ?_ _) | ((with_reducible refine Fr.setCell ?_ ?_ _); rotate_left; first | exact .inl rfl | exact .inr (Nat.le_refl _) | exact .inl (Nat.le_refl _) | (focus (left; simp; done)) | (focus (left; simp; omega)) | (focus (left; omega)) | (focus (right; simp; done)) | (focus (right; simp; omega)) | (focus (right; omega))) | exact Fr.refl _ _))).n1⟩

theorem fpat_ih (t : RS) (outer : Nat) : ∀ n i sg x, fPat t outer n i sg = some x → FPt t outer i sg x
  | 0, _, _, _, h => by simp [fPat] at h
  | n + 1, i, sg, x, h => w_fpat t outer n (fpat_ih t outer n) i sg x h

end Go.Proofs.YtnbhnjokpcdnnaaDoor

namespace Go.Proofs.YtnbhnjokpcdnnaaDoor
open Go.RowKit

/-- The contract of exp: what is in sight stays. -/
def FCt (t : RS) (i : Int) (sg : List Int) (b : Bool) : Prop :=
  ∀ (q : Nat) (root : Int) (E P B : Value) (cE : List Value) (S M : Value) (bad : Bool) (w : World), Fd w q t root E P B cE S M sg bad →
    Calls Tryd.prog 20 #[.pointer (some ⟨q, 0, none⟩), .int .i64 i] w fun e w' => e = .returned (.tuple #[]) ∧ Fn1 q t root E P B cE w S M w' sg (bad || b)

def FIh (t : RS) (R : Int → List Int → Option Bool) : Prop := ∀ i sg b, R i sg = some b → FCt t i sg b

section
variable {q : Nat} {t : RS} {root : Int} {E P B : Value} {cE : List Value} {w0 : World} {S0 M0 : Value} {w : World} {S M : Value} {sg : List Int} {bad : Bool}

theorem Fx.exp (h : Fx q t root E P B cE w0 S0 M0 w S M sg bad) {i : Int} {b : Bool} (hx : FCt t i sg b) :
    Calls Tryd.prog 20 #[.pointer (some ⟨q, 0, none⟩), .int .i64 i] w fun e w' => e = .returned (.tuple #[]) ∧ Fns q t root E P B cE w0 S0 M0 w S M w' sg (bad || b) :=
  (hx q root E P B cE S M bad w h.1).mono fun _ _ hh => ⟨hh.1, h.go hh.2⟩

/-- What is in sight is cut back. -/
theorem Fx.back {sg' : List Int} (h : Fx q t root E P B cE w0 S0 M0 w S M (sg ++ sg') bad) : ∀ sa sc, S = .slice sa (sg ++ sg').length sc → Fx q t root E P B cE w0 S0 M0 (w.setCell ⟨q, 4, none⟩ (.slice sa sg.length sc)) (.slice sa sg.length sc) M sg bad := by
  rintro sa sc rfl
  refine h.sight (w1 := w) (w2 := w) (Fr.refl _ _) ⟨rfl, rfl, rfl, Nat.le_refl _, fun _ _ _ => rfl⟩ ?_ (.inl (by cases sa <;> rfl)) (fun v hv => h.1.ok v (List.mem_append.2 (.inl hv)))
  obtain ⟨h1, h2⟩ := h.1.s
  refine ⟨by simp, ?_⟩
  rcases h2 with ⟨h3, h4⟩ | ⟨g, cap, cur, h3, h4, h5, h6, h7, h8, h9⟩
  · simp only [Value.slice.injEq] at h3
    obtain ⟨rfl, h3, rfl⟩ := h3
    rw [List.length_append] at h4
    have hz : sg.length = 0 := by omega
    exact .inl ⟨by rw [hz], hz⟩
  · simp only [Value.slice.injEq] at h3
    obtain ⟨rfl, h3, rfl⟩ := h3
    rw [List.length_append] at h6
    refine .inr ⟨g, sc, cur, rfl, h4, h5, by omega, h7, h8, ?_⟩
    have h10 : List.take (sg.length * 1) cur.toList = List.take sg.length (List.take ((sg ++ sg').length * 1) cur.toList) := by
      rw [List.take_take]
      congr 1
      simp
    rw [h10, h9, List.map_append]
    exact List.take_left' (by simp)
end

set_option maxHeartbeats 3200000 in
set_option maxRecDepth 100000 in
theorem within_any (t : RS) (R : Int → List Int → Option Bool) (ih : FIh t R) (v body : Int) (sg : List Int) (b : Bool) (h : fWithin t R v body sg = some b) (q : Nat) (root : Int) (E P B : Value) (cE : List Value) (S M : Value) (bad : Bool) (w : World) (hd : Fd w q t root E P B cE S M sg bad) :
    Calls Tryd.prog 34 #[.pointer (some ⟨q, 0, none⟩), .int .i64 v, .int .i64 body] w fun e w' => e = .returned (.tuple #[]) ∧ Fn1 q t root E P B cE w S M w' sg (bad || b) := by
  unfold fWithin at h
  split at h
  case isFalse => cases h
  case isTrue hc =>
  simp only [Bool.and_eq_true, decide_eq_true_eq] at hc
  obtain ⟨hv, hlen⟩ := hc
  have Hv : Hid (bOk t v = true) := hv
  have HX : Hid (Fx q t root E P B cE w S M w S M sg bad) := Fx.start hd
  obtain ⟨⟨-, -, -, c4, -, -⟩, hf⟩ := hd.cells
  have f4 := hf 4
  have hq := hd.lt
  have hS := hd.s
  have HSr : Hid (∀ b, S.ownBlock = some b → q + 1 ≤ b) := fun b hb => (hS.lt b hb).1
  obtain ⟨sa, sc, rfl⟩ := ownsRow_len hS
  clear hd hf hv
  go_enter Tryd.func34, Tryd.ntmps34
  go_wp2_with (at_builtin; refine wpList_app slInt rfl (.tmp 16) (.tmp 18) rfl (q + 1) sg.length (sg.map (.int .i64)) _ rfl (hS.alloc _) ⟨w.heap.size, 0, none⟩ 1 1 [.int .i64 v] rfl rfl ?c1 ?c2 (by decide) ?b1 ?b2 ?b3 ?grow)
  case c1 => intro j u hj; match j, hj with | 0, hj => simp at hj; subst hj; simp [Addr.add]
  case c2 => intro u hu; simp at hu; rcases hu with rfl; rfl
  case b1 => unfold maxLen; omega
  case b2 => omega
  case b3 => simp; omega
  case grow =>
    intro v' w3 hown hgrow hv g' cap hfm
    subst hfm
    obtain ⟨k4, g4⟩ := grown_at hq (by exact ((Fr.refl _ w).alloc _)) hgrow HSr.out 4
    rw [c4] at k4
    rw [f4] at g4
    have hX1 : Fx q t root E P B cE w (.slice sa sg.length sc) M (w3.setCell ⟨q, 4, none⟩ (.slice (some ⟨g', 0, none⟩) (sg.length + 1) cap)) (.slice (some ⟨g', 0, none⟩) (sg.length + 1) cap) M (sg ++ [v]) bad := HX.out.sight (by exact ((Fr.refl _ w).alloc _)) hgrow (by simpa using hown) (by simpa using hv) (HX.out.bnd Hv.out)
    clear hown hgrow hv HX
    go_wp2_with fail
    refine (hX1.exp (ih _ _ _ h)).mono ?_
    rintro e w4 ⟨rfl, S4, M4, hX4, -, -⟩
    clear hX1
    obtain ⟨⟨-, -, -, d4, -, -⟩, hf4⟩ := hX4.1.cells
    have e4 := hf4 4
    have hq4 := hX4.1.lt
    have hcap : Hid (∃ sa' sc', S4 = .slice sa' (sg ++ [v]).length sc' ∧ (sg ++ [v]).length ≤ sc') := by
      rcases hX4.1.s.2 with ⟨_, h0⟩ | ⟨g, cap, cur, h3, _, _, h6, _⟩
      · simp at h0
      · exact ⟨_, _, h3, h6⟩
    obtain ⟨sa', sc', rfl, hcap'⟩ := hcap.out
    have hX5 := hX4.back sa' sc' rfl
    have HX5 : Hid (Fx q t root E P B cE w (.slice sa sg.length sc) M (w4.setCell ⟨q, 4, none⟩ (.slice sa' sg.length sc')) (.slice sa' sg.length sc') M4 sg (bad || b)) := hX5
    have hle : sg.length ≤ sc' := by simp at hcap'; omega
    clear hX5 hX4 hf4 hcap hcap'
    go_wp2_with fail
    go_end0
    exact ⟨rfl, HX5.out.n1⟩

end Go.Proofs.YtnbhnjokpcdnnaaDoor

namespace Go.Proofs.YtnbhnjokpcdnnaaDoor
open Go.RowKit

theorem ExpsAt.at {w : World} {O : Nat → Prop} : ∀ (l : List EX) (c : List Value), ExpsAt w O l c → ∀ i (h : i < l.length), ∃ vf va, ExpAt w O l[i] vf va ∧ (vf ∈ c ∧ va ∈ c) ∧
    c[i * 8]? = some (.int .i64 l[i].kind) ∧ c[i * 8 + 1]? = some (.int .i64 l[i].num) ∧ c[i * 8 + 2]? = some (.int .i64 l[i].binder) ∧ c[i * 8 + 3]? = some (.int .i64 l[i].first) ∧ c[i * 8 + 4]? = some (.int .i64 l[i].second) ∧ c[i * 8 + 5]? = some (.int .i64 l[i].third) ∧ c[i * 8 + 6]? = some vf ∧ c[i * 8 + 7]? = some va
  | [], _, _, _, h => by cases h
  | a :: l, _, ⟨vf, va, c', hc, h1, h2⟩, 0, _ => by
    subst hc
    refine ⟨vf, va, h1, ⟨by simp [expCells], by simp [expCells]⟩, ?_⟩
    simp [expCells]
  | a :: l, _, ⟨vf, va, c', hc, h1, h2⟩, i + 1, h => by
    subst hc
    obtain ⟨vf', va', h3, ⟨m1, m2⟩, h4⟩ := ExpsAt.at l c' h2 i (by simpa using h)
    refine ⟨vf', va', h3, ⟨List.mem_append.2 (.inr m1), List.mem_append.2 (.inr m2)⟩, ?_⟩
    rw [show (i + 1) * 8 = i * 8 + 8 by omega]
    simpa [expCells] using h4

/-- An expression, as it lies. -/
theorem Fd.ex {w : World} {q : Nat} {t : RS} {root : Int} {E P B : Value} {cE : List Value} {S M : Value} {sg : List Int} {bad : Bool} (h : Fd w q t root E P B cE S M sg bad) {i : Int} {e : EX} (he : expAt t i = some e) :
    ∃ (g cap n : Nat) (vf va : Value), E = .slice (some ⟨g, 0, none⟩) t.exps.length cap ∧ i = (n : Int) ∧ n < t.exps.length ∧ g < w.heap.size ∧ ExpAt w (fun _ => False) e vf va ∧ (vf ∈ cE ∧ va ∈ cE) ∧
      w.cell? ⟨g, n * 8, none⟩ = some (.int .i64 e.kind) ∧ w.cell? ⟨g, n * 8 + 1, none⟩ = some (.int .i64 e.num) ∧ w.cell? ⟨g, n * 8 + 2, none⟩ = some (.int .i64 e.binder) ∧
      w.cell? ⟨g, n * 8 + 3, none⟩ = some (.int .i64 e.first) ∧ w.cell? ⟨g, n * 8 + 4, none⟩ = some (.int .i64 e.second) ∧ w.cell? ⟨g, n * 8 + 5, none⟩ = some (.int .i64 e.third) ∧ w.cell? ⟨g, n * 8 + 6, none⟩ = some vf ∧ w.cell? ⟨g, n * 8 + 7, none⟩ = some va := by
  unfold expAt at he
  split at he
  case isFalse => cases he
  case isTrue h0 =>
  obtain ⟨hlt, rfl⟩ := List.getElem?_eq_some_iff.1 he
  have hl := h.tr.e
  rcases hl.2 with ⟨_, h0⟩ | ⟨g, cap, cur, rfl, hg⟩
  · omega
  · obtain ⟨vf, va, h1, hm, e0, e1, e2, e3, e4, e5, e6, e7⟩ := ExpsAt.at _ _ h.tr.eAt i.toNat hlt
    have hc : ∀ j v, cE[j]? = some v → j < t.exps.length * 8 → w.cell? ⟨g, j, none⟩ = some v := fun j v hj hlt' => by rw [World.ownsRow.cellAt hl _ hlt']; exact hj
    exact ⟨g, cap, i.toNat, vf, va, rfl, by omega, hlt, (hl.lt g rfl).2, h1, hm, hc _ _ e0 (by omega), hc _ _ e1 (by omega), hc _ _ e2 (by omega), hc _ _ e3 (by omega), hc _ _ e4 (by omega), hc _ _ e5 (by omega), hc _ _ e6 (by omega), hc _ _ e7 (by omega)⟩

theorem cells8 {w : World} {l : Nat} {a b c d e f g h : Value} {t : TypeId} (hb : w.heap[l]? = some (.cells #[a, b, c, d, e, f, g, h] t (0, 0))) :
    w.cell? ⟨l, 0, none⟩ = some a ∧ w.cell? ⟨l, 1, none⟩ = some b ∧ w.cell? ⟨l, 2, none⟩ = some c ∧ w.cell? ⟨l, 3, none⟩ = some d ∧ w.cell? ⟨l, 4, none⟩ = some e ∧ w.cell? ⟨l, 5, none⟩ = some f ∧ w.cell? ⟨l, 6, none⟩ = some g ∧ w.cell? ⟨l, 7, none⟩ = some h := by
  simp [World.cell?, hb]

section
variable {q : Nat} {t : RS} {root : Int} {E P B : Value} {cE : List Value} {w0 : World} {S0 M0 : Value} {w : World} {S M : Value} {sg : List Int} {bad : Bool}

theorem Fx.within (h : Fx q t root E P B cE w0 S0 M0 w S M sg bad) {R : Int → List Int → Option Bool} (ih : FIh t R) {v body : Int} {b : Bool} (hx : fWithin t R v body sg = some b) :
    Calls Tryd.prog 34 #[.pointer (some ⟨q, 0, none⟩), .int .i64 v, .int .i64 body] w fun e w' => e = .returned (.tuple #[]) ∧ Fns q t root E P B cE w0 S0 M0 w S M w' sg (bad || b) :=
  (within_any t R ih v body sg b hx q root E P B cE S M bad w h.1).mono fun _ _ hh => ⟨hh.1, h.go hh.2⟩

theorem Fx.inner (h : Fx q t root E P B cE w0 S0 M0 w S M sg bad) (name : Int) :
    Calls Tryd.prog 33 #[.pointer (some ⟨q, 0, none⟩), .int .i64 name] w fun e w' => ∃ r, e = .returned (.int .i64 r) ∧ Fns q t root E P B cE w0 S0 M0 w S M w' sg (bad || fInner t sg name) :=
  (innermost_any q t root E P B cE S M sg bad name w h.1).mono fun _ _ hh => let ⟨r, h1, h2⟩ := hh; ⟨r, h1, h.go h2⟩

/-- A number is written among the meanings. -/
theorem Fx.means (h : Fx q t root E P B cE w0 S0 M0 w S M sg bad) {n : Nat} (hn : n < t.exps.length) (r : Int) : ∃ mb mc, M = .slice (some ⟨mb, 0, none⟩) t.exps.length mc ∧ mb < w.heap.size ∧ (∃ v, w.cell? ⟨mb, n, none⟩ = some (.int .i64 v)) ∧ w.frozen? ⟨mb, n, none⟩ = false ∧
    Fx q t root E P B cE w0 S0 M0 (w.setCell ⟨mb, n, none⟩ (.int .i64 r)) S M sg bad := by
  obtain ⟨hR, h2, h3⟩ := h
  obtain ⟨ms, hm⟩ := hR.m
  have hml : ms.length = t.exps.length := by have := hm.1; simpa using this
  rcases hm.2 with ⟨_, h0⟩ | ⟨mb, mc, cur, rfl, hbase, hblk, hle, hmax, hsz, htk⟩
  · omega
  have hF : Fr (fun b => b = mb) w (w.setCell ⟨mb, n, none⟩ (.int .i64 r)) := (by repeat (first | with_reducible exact Fr.refl _ _ | (with_reducible refine Fr.drew ?_) | (with_reducible refine Fr.drewN ?_ _) | (with_reducible refine Fr.alloc ?_ _) | ((with_reducible refine Fr.setCell ?_ ?_ _); rotate_left; first | exact .inl rfl | exact .inr (Nat.le_refl _) | exact .inl (Nat.le_refl _) | (focus (left; simp; done)) | (focus (left; simp; omega)) | (focus (left; omega)) | (focus (right; simp; done)) | (focus (right; simp; omega)) | (focus (right; omega))) | exact Fr.refl _ _))
  have hcell := World.ownsRow.cellAt hm n (by omega)
  refine ⟨mb, mc, rfl, (hm.lt mb rfl).2, ⟨ms.getD n 0, by rw [hcell]; simp [hml, hn]⟩, by simp [World.frozen?, hblk], ⟨(hF.block q hR.lt (by omega)).trans hR.blk, hR.tr.keep fun b hb => hF.block b (hR.tr.lt b hb) (by have := hR.old b hb; omega), hR.old,
    ownsRow_block hR.s fun b hb => hF.block b (hR.s.lt b hb).2 (by rintro rfl; exact hR.sm _ hb rfl), ⟨ms.set n r, ?_⟩, hR.sm, hR.ok, hR.ne, hR.nb⟩, h2.trans hF (fun i hi => by subst hi; exact h3 _ (.inr (.inr rfl))), h3⟩
  refine ⟨by simpa using hml, .inr ⟨mb, mc, cur.setIfInBounds n (.int .i64 r), rfl, hbase, heap_setCell_same _ hblk, hle, hmax, by simpa using hsz, ?_⟩⟩
  rw [Array.toList_setIfInBounds, List.take_set, htk, List.map_set]
end

end Go.Proofs.YtnbhnjokpcdnnaaDoor

namespace Go.Proofs.YtnbhnjokpcdnnaaDoor
open Go.RowKit

theorem Fn1.pre {q : Nat} {t : RS} {root : Int} {E P B : Value} {cE : List Value} {w w1 w' : World} {S M : Value} {sg : List Int} {bad : Bool} (hF : Fr (fun _ => False) w w1) (h : Fn1 q t root E P B cE w1 S M w' sg bad) : Fn1 q t root E P B cE w S M w' sg bad := by
  obtain ⟨S', M', h1, h2, h3⟩ := h
  refine ⟨S', M', h1, (hF.mono (fun _ h => h.elim)).trans h2 (fun _ h => .inl h), fun b hb => ?_⟩
  rcases h3 b hb with h4 | h4
  · exact .inl h4
  · have := hF.size; right; omega

/-- A block that lay there when the finder was asked, and is not its own, lies there still. -/
theorem Fx.blk {q : Nat} {t : RS} {root : Int} {E P B : Value} {cE : List Value} {w0 w : World} {S0 M0 S M : Value} {sg : List Int} {bad : Bool} (h : Fx q t root E P B cE w0 S0 M0 w S M sg bad) {l : Nat} {o : Obj} (hn : ¬ fown q S0 M0 l) (hb : w0.heap[l]? = some o) : w.heap[l]? = some o :=
  (h.2.1.block l (blk_lt hb) hn).trans hb

theorem funCells_at : ∀ (l : List (Int × Int × Int)) (i : Nat) (h : i < l.length), (funCells l)[i * 3]? = some (.int .i64 l[i].1) ∧ (funCells l)[i * 3 + 1]? = some (.int .i64 l[i].2.1) ∧ (funCells l)[i * 3 + 2]? = some (.int .i64 l[i].2.2)
  | [], _, h => by cases h
  | a :: l, 0, _ => by simp [funCells]
  | a :: l, i + 1, h => by
    have := funCells_at l i (by simpa using h)
    have e : funCells (a :: l) = .int .i64 a.1 :: .int .i64 a.2.1 :: .int .i64 a.2.2 :: funCells l := by simp [funCells]
    rw [e, show (i + 1) * 3 = i * 3 + 3 by omega]
    simpa using this

theorem armCells_at : ∀ (l : List (Int × Int)) (i : Nat) (h : i < l.length), (armCells l)[i * 2]? = some (.int .i64 l[i].1) ∧ (armCells l)[i * 2 + 1]? = some (.int .i64 l[i].2)
  | [], _, h => by cases h
  | a :: l, 0, _ => by simp [armCells]
  | a :: l, i + 1, h => by
    have := armCells_at l i (by simpa using h)
    have e : armCells (a :: l) = .int .i64 a.1 :: .int .i64 a.2 :: armCells l := by simp [armCells]
    rw [e, show (i + 1) * 2 = i * 2 + 2 by omega]
    simpa using this

theorem funRow {w : World} {v : Value} {l : List (Int × Int × Int)} (h : w.ownsRow 0 96 3 v l.length (funCells l)) {i : Nat} (hi : i < l.length) :
    ∃ g cap, v = .slice (some ⟨g, 0, none⟩) l.length cap ∧ w.cell? ⟨g, i * 3, none⟩ = some (.int .i64 l[i].1) ∧ w.cell? ⟨g, i * 3 + 1, none⟩ = some (.int .i64 l[i].2.1) ∧ w.cell? ⟨g, i * 3 + 2, none⟩ = some (.int .i64 l[i].2.2) := by
  rcases h.2 with ⟨_, h0⟩ | ⟨g, cap, cur, rfl, hg⟩
  · omega
  · have := funCells_at l i hi
    exact ⟨g, cap, rfl, by rw [World.ownsRow.cellAt h _ (by omega)]; exact this.1, by rw [World.ownsRow.cellAt h _ (by omega)]; exact this.2.1, by rw [World.ownsRow.cellAt h _ (by omega)]; exact this.2.2⟩

theorem armRow {w : World} {v : Value} {l : List (Int × Int)} (h : w.ownsRow 0 92 2 v l.length (armCells l)) {i : Nat} (hi : i < l.length) :
    ∃ g cap, v = .slice (some ⟨g, 0, none⟩) l.length cap ∧ w.cell? ⟨g, i * 2, none⟩ = some (.int .i64 l[i].1) ∧ w.cell? ⟨g, i * 2 + 1, none⟩ = some (.int .i64 l[i].2) := by
  rcases h.2 with ⟨_, h0⟩ | ⟨g, cap, cur, rfl, hg⟩
  · omega
  · have := armCells_at l i hi
    exact ⟨g, cap, rfl, by rw [World.ownsRow.cellAt h _ (by omega)]; exact this.1, by rw [World.ownsRow.cellAt h _ (by omega)]; exact this.2⟩

theorem row_maxLen {w : World} {base : Nat} {e : TypeId} {size : Nat} {v : Value} {n : Nat} {xs : List Value} (h : w.ownsRow base e size v n xs) : n ≤ 9223372036854775807 := by
  rcases h.2 with ⟨_, h0⟩ | ⟨g, cap, cur, _, _, _, h1, h2, _⟩
  · omega
  · unfold maxLen at h2; omega

theorem fBinds_pre {t : RS} {outer : Nat} : ∀ (l : List (Int × Int × Int)) (sg : List Int) (x : List Int × Bool), fBinds t outer l sg = some x → ∃ m, x.1 = sg ++ m
  | [], sg, x, h => by simp [fBinds] at h; exact ⟨[], by simp [← h]⟩
  | f :: l, sg, x, h => by
    unfold fBinds at h
    obtain ⟨y, hy, h⟩ := Option.bind_eq_some_iff.1 h
    obtain ⟨z, hz, h⟩ := Option.bind_eq_some_iff.1 h
    cases h
    obtain ⟨m, hm⟩ := fBinds_pre l _ _ hz
    exact ⟨[f.1] ++ m, by rw [hm, fBind_pre hy, List.append_assoc]⟩

set_option maxHeartbeats 6400000 in
set_option maxRecDepth 100000 in
theorem fletRec_any (t : RS) (R : Int → List Int → Option Bool) (ih : FIh t R) (e : EX) (sg : List Int) (b : Bool) (h : fLetRec t R e sg = some b) (q : Nat) (root : Int) (E P B : Value) (cE : List Value) (S M : Value) (bad : Bool) (w : World) (hd : Fd w q t root E P B cE S M sg bad)
    (vf va : Value) (hrow : w.ownsRow 0 96 3 vf e.funs.length (funCells e.funs)) (hold : ∀ b, vf.ownBlock = some b → b < q) (hva : ∃ aa an ac, va = .slice aa an ac) :
    Calls Tryd.prog 35 #[.pointer (some ⟨q, 0, none⟩), .agg #[.int .i64 e.kind, .int .i64 e.num, .int .i64 e.binder, .int .i64 e.first, .int .i64 e.second, .int .i64 e.third, vf, va]] w
      fun r w' => r = .returned (.tuple #[]) ∧ Fn1 q t root E P B cE w S M w' sg (bad || b) := by
  unfold fLetRec at h
  obtain ⟨x, hx, h⟩ := Option.bind_eq_some_iff.1 h
  obtain ⟨y, hy, h⟩ := Option.bind_eq_some_iff.1 h
  obtain ⟨z, hz, h⟩ := Option.bind_eq_some_iff.1 h
  have Hb : Hid (b = (x.2 || y || z)) := by show b = _; simpa using h.symm
  have HX : Hid (fBinds t sg.length e.funs sg = some x) := hx
  have HY : Hid (fFuns t R e.funs x.1 = some y) := hy
  have HZ : Hid (R e.first x.1 = some z) := hz
  have HXX : Hid (fBinds t sg.length e.funs sg = some x) := hx
  clear h hx hy hz
  obtain ⟨aa, an, ac, rfl⟩ := hva
  obtain ⟨fa, fc, rfl⟩ := ownsRow_len hrow
  have hq := hd.lt
  have hfl := row_maxLen hrow
  have hsl := row_maxLen hd.s
  obtain ⟨sa, sc, rfl⟩ := ownsRow_len hd.s
  generalize hW : w.alloc (.cells #[.int .i64 e.kind, .int .i64 e.num, .int .i64 e.binder, .int .i64 e.first, .int .i64 e.second, .int .i64 e.third, .slice fa e.funs.length fc, .slice aa an ac] 80) = W
  have hFW : Fr (fun _ => False) w W := by rw [← hW]; exact (Fr.refl _ w).alloc _
  have hX0 := Fx.start (hd.fr hFW)
  have hl : ¬ fown q (.slice sa sg.length sc) M w.heap.size := fun h' => by have := (hd.own_ge _ h').2; omega
  have hbl : W.heap[w.heap.size]? = some (.cells #[.int .i64 e.kind, .int .i64 e.num, .int .i64 e.binder, .int .i64 e.first, .int .i64 e.second, .int .i64 e.third, .slice fa e.funs.length fc, .slice aa an ac] 80 (0, 0)) := by rw [← hW]; exact blk_new w _
  have hrowW : W.ownsRow 0 96 3 (.slice fa e.funs.length fc) e.funs.length (funCells e.funs) := ownsRow_block hrow fun b hb => hFW.block b (hrow.lt b hb).2 id
  have HFW : Hid (Fr (fun _ => False) w W) := hFW
  have HL : Hid (∀ w' S' M' sg' bad', Fx q t root E P B cE W (.slice sa sg.length sc) M w' S' M' sg' bad' → w'.heap[w.heap.size]? = some (.cells #[.int .i64 e.kind, .int .i64 e.num, .int .i64 e.binder, .int .i64 e.first, .int .i64 e.second, .int .i64 e.third, .slice fa e.funs.length fc, .slice aa an ac] 80 (0, 0)) ∧ w'.ownsRow 0 96 3 (.slice fa e.funs.length fc) e.funs.length (funCells e.funs)) :=
    fun w' S' M' sg' bad' hx => ⟨hx.blk hl hbl, ownsRow_block hrowW fun b hb => hx.2.1.block b (hrowW.lt b hb).2 (fun ho => by have := (hX0.1.own_ge b ho).1; have := hold b hb; omega)⟩
  obtain ⟨⟨-, -, -, c4, -, -⟩, -⟩ := hX0.1.cells
  obtain ⟨-, -, -, -, -, -, m6, -⟩ := cells8 hbl
  clear hd hrow hold hl hbl hrowW hFW
  go_enter Tryd.func35, Tryd.ntmps35
  go_wp2_with fail
  go_loopg [5] e.funs.length (fun m i wr => ∃ (k : Nat) (sgk : List Int) (bk : Bool) (yk : List Int × Bool) (Sk Mk : Value), i = .int .i64 k ∧ k ≤ e.funs.length ∧ m = e.funs.length - k ∧ fBinds t sg.length (e.funs.drop k) sgk = some yk ∧ (yk.1 = x.1 ∧ (bk || yk.2) = x.2) ∧ sg.length ≤ sgk.length ∧ Fx q t root E P B cE W (.slice sa sg.length sc) M wr Sk Mk sgk (bad || bk))
  case atStart => exact ⟨0, sg, false, x, _, _, rfl, Nat.zero_le _, by simp, by simpa using HX.out, ⟨rfl, by simp⟩, Nat.le_refl _, by simpa using hX0⟩
  case round =>
    obtain ⟨k, sgk, bk, yk, Sk, Mk, rfl, hk, hm, hbn, ⟨hy1, hy2⟩, hle, hXk⟩ := hrel
    have HM : Hid (gk = e.funs.length - k) := hm
    have HW : Hid (w.alloc (.cells #[.int .i64 e.kind, .int .i64 e.num, .int .i64 e.binder, .int .i64 e.first, .int .i64 e.second, .int .i64 e.third, .slice fa e.funs.length fc, .slice aa an ac] 80) = W) := hW
    clear hX0 hm HX c4 m6 hW
    obtain ⟨hbl, hrw⟩ := HL.out _ _ _ _ _ hXk
    obtain ⟨-, -, -, m3, -, -, m6, -⟩ := cells8 hbl
    have hlW := blk_lt hbl
    by_cases hlt : k < e.funs.length
    · obtain ⟨g, cap, hfe, d0, -, -⟩ := funRow hrw hlt
      cases hfe
      rw [List.drop_eq_getElem_cons hlt] at hbn
      unfold fBinds at hbn
      obtain ⟨u, hu, hbn⟩ := Option.bind_eq_some_iff.1 hbn
      obtain ⟨v, hv, hbn⟩ := Option.bind_eq_some_iff.1 hbn
      have HV : Hid (fBinds t sg.length (e.funs.drop (k + 1)) u.1 = some v) := hv
      have HY1 : Hid (v.1 = x.1 ∧ (bk || u.2 || v.2) = x.2) := by
        cases hbn
        exact ⟨hy1, by rw [Bool.or_assoc]; exact hy2⟩
      have HLE : Hid (sg.length ≤ u.1.length) := by show sg.length ≤ _; rw [fBind_pre hu, List.length_append]; omega
      clear hbn hv hy1 hy2 hbl hrw
      go_wp2_with fail
      refine (hXk.bindOnce hle hu).mono ?_
      rintro r w1 ⟨rfl, S1, M1, hX1, -, -⟩
      clear hXk
      go_wp2_with fail
      go_roundg (e.funs.length - (k + 1))
      case measure => rw [HM.out]; omega
      case rel => exact ⟨k + 1, u.1, (bk || u.2), v, S1, M1, by go_num, by omega, rfl, HV.out, HY1.out, HLE.out, by rw [← Bool.or_assoc]; exact hX1⟩
    · obtain rfl : k = e.funs.length := by omega
      simp only [List.drop_length, fBinds, Option.some.injEq] at hbn
      obtain ⟨rfl⟩ := hbn
      simp only [Bool.or_false] at hy1 hy2
      subst hy1
      subst hy2
      clear HM hlt
      have hXs : Fx q t root E P B cE W (.slice sa sg.length sc) M wr Sk Mk x.1 (bad || x.2 || false) := by simpa using hXk
      clear hbl hrw
      go_wp2_with fail
      go_loopg [6] e.funs.length (fun m i wr' => ∃ (k : Nat) (bk : Bool) (yk : Bool) (Sk Mk : Value), i = .int .i64 k ∧ k ≤ e.funs.length ∧ m = e.funs.length - k ∧ fFuns t R (e.funs.drop k) x.1 = some yk ∧ (bk || yk) = y ∧ Fx q t root E P B cE W (.slice sa sg.length sc) M wr' Sk Mk x.1 (bad || x.2 || bk))
      case atStart => exact ⟨0, false, y, _, _, rfl, Nat.zero_le _, by simp, by simpa using HY.out, by simp, hXs⟩
      case round =>
        obtain ⟨k, bk, yk, Sk', Mk', rfl, hk, hm, hbn, hy1, hXk'⟩ := hrel
        have HM : Hid (gk = e.funs.length - k) := hm
        clear hXk hXs hm HY m3 m6 hlW
        obtain ⟨hbl, hrw⟩ := HL.out _ _ _ _ _ hXk'
        obtain ⟨-, -, -, m3, -, -, m6, -⟩ := cells8 hbl
        have hlW := blk_lt hbl
        by_cases hlt : k < e.funs.length
        · obtain ⟨g, cap, hfe, -, d1, d2⟩ := funRow hrw hlt
          cases hfe
          rw [List.drop_eq_getElem_cons hlt] at hbn
          unfold fFuns at hbn
          obtain ⟨u, hu, hbn⟩ := Option.bind_eq_some_iff.1 hbn
          obtain ⟨v, hv, hbn⟩ := Option.bind_eq_some_iff.1 hbn
          have HV : Hid (fFuns t R (e.funs.drop (k + 1)) x.1 = some v) := hv
          have HY1 : Hid ((bk || u || v) = y) := by
            cases hbn
            show _ = y
            rw [Bool.or_assoc]; exact hy1
          clear hbn hv hy1 hbl hrw
          go_wp2_with fail
          refine region_tail 13 mixed (by kernel_rfl) ?_
          simp only [List.take_succ_cons, List.take_zero, List.drop_succ_cons, List.drop_zero]
          repeat still_step
          refine wpStill_nil ?_
          go_wp2_with fail
          refine ((hXk'.fr (by repeat (first | with_reducible exact Fr.refl _ _ | (with_reducible refine Fr.drew ?_) | (with_reducible refine Fr.drewN ?_ _) | (with_reducible refine Fr.alloc ?_ _) | ((with_reducible refine Fr.setCell ?_ ?_ _); rotate_left; first | exact .inl rfl | exact .inr (Nat.le_refl _) | exact .inl (Nat.le_refl _) | (focus (left; simp; done)) | (focus (left; simp; omega)) | (focus (left; omega)) | (focus (right; simp; done)) | (focus (right; simp; omega)) | (focus (right; omega))) | exact Fr.refl _ _))).within ih hu).mono ?_
          rintro r w1 ⟨rfl, S1, M1, hX1, -, -⟩
          clear hXk'
          go_wp2_with fail
          go_roundg (e.funs.length - (k + 1))
          case measure => rw [HM.out]; omega
          case rel => exact ⟨k + 1, (bk || u), v, S1, M1, by go_num, by omega, rfl, HV.out, HY1.out, by rw [← Bool.or_assoc]; exact hX1⟩
        · obtain rfl : k = e.funs.length := by omega
          simp only [List.drop_length, fFuns, Option.some.injEq] at hbn
          subst hbn
          simp only [Bool.or_false] at hy1
          subst hy1
          clear HM hlt hbl hrw
          obtain ⟨mx, hmx⟩ := fBinds_pre _ _ _ HXX.out
          go_wp2_with fail
          refine (hXk'.exp (ih _ _ _ HZ.out)).mono ?_
          rintro r w4 ⟨rfl, S4, M4, hX4, -, -⟩
          clear hXk' HL m3 m6
          rw [hmx] at hX4
          obtain ⟨⟨-, -, -, d4, -, -⟩, hf4⟩ := hX4.1.cells
          have e4 := hf4 4
          have hq4 := hX4.1.lt
          obtain ⟨sa', sc', hS4, hcap⟩ : ∃ sa' sc', S4 = .slice sa' (sg ++ mx).length sc' ∧ (sg ++ mx).length ≤ sc' := by
            rcases hX4.1.s.2 with ⟨h3, h0⟩ | ⟨g, cap, cur, h3, _, _, h6, _⟩
            · exact ⟨_, _, by rw [h3, h0], by rw [h0]; exact Nat.le_refl _⟩
            · exact ⟨_, _, h3, h6⟩
          subst hS4
          have HX5 : Hid (Fx q t root E P B cE W (.slice sa sg.length sc) M (w4.setCell ⟨q, 4, none⟩ (.slice sa' sg.length sc')) (.slice sa' sg.length sc') M4 sg (bad || x.2 || bk || z)) := hX4.back sa' sc' rfl
          have hle2 : sg.length ≤ sc' := by simp at hcap; omega
          have hle3 : sg.length ≤ (sg ++ mx).length := by simp
          clear hX4 hf4 hcap hmx
          go_wp2_with fail
          go_end0
          rw [Hb.out]
          exact ⟨rfl, Fn1.pre HFW.out (by simpa [Bool.or_assoc] using HX5.out.n1)⟩

end Go.Proofs.YtnbhnjokpcdnnaaDoor

namespace Go.Proofs.YtnbhnjokpcdnnaaDoor
open Go.RowKit

set_option maxHeartbeats 6400000 in
set_option maxRecDepth 100000 in
theorem fmatch_any (t : RS) (R : Int → List Int → Option Bool) (ih : FIh t R) (n : Nat) (e : EX) (sg : List Int) (b : Bool) (h : fMatch t R n e sg = some b) (q : Nat) (root : Int) (E P B : Value) (cE : List Value) (S M : Value) (bad : Bool) (w : World) (hd : Fd w q t root E P B cE S M sg bad)
    (vf va : Value) (hrow : w.ownsRow 0 92 2 va e.arms.length (armCells e.arms)) (hold : ∀ b, va.ownBlock = some b → b < q) (hvf : ∃ aa an ac, vf = .slice aa an ac) :
    Calls Tryd.prog 36 #[.pointer (some ⟨q, 0, none⟩), .agg #[.int .i64 e.kind, .int .i64 e.num, .int .i64 e.binder, .int .i64 e.first, .int .i64 e.second, .int .i64 e.third, vf, va]] w
      fun r w' => r = .returned (.tuple #[]) ∧ Fn1 q t root E P B cE w S M w' sg (bad || b) := by
  unfold fMatch at h
  obtain ⟨x, hx, h⟩ := Option.bind_eq_some_iff.1 h
  obtain ⟨y, hy, h⟩ := Option.bind_eq_some_iff.1 h
  have Hb : Hid (b = (x || y)) := by show b = _; simpa using h.symm
  have HX : Hid (R e.first sg = some x) := hx
  have HY : Hid (fArms t R n e.arms sg = some y) := hy
  clear h hx hy
  obtain ⟨fa, fn, fc, rfl⟩ := hvf
  obtain ⟨aa, ac, rfl⟩ := ownsRow_len hrow
  have hq := hd.lt
  have hfl := row_maxLen hrow
  have hsl := row_maxLen hd.s
  obtain ⟨sa, sc, rfl⟩ := ownsRow_len hd.s
  generalize hW : w.alloc (.cells #[.int .i64 e.kind, .int .i64 e.num, .int .i64 e.binder, .int .i64 e.first, .int .i64 e.second, .int .i64 e.third, .slice fa fn fc, .slice aa e.arms.length ac] 80) = W
  have hFW : Fr (fun _ => False) w W := by rw [← hW]; exact (Fr.refl _ w).alloc _
  have hX0 := Fx.start (hd.fr hFW)
  have hl : ¬ fown q (.slice sa sg.length sc) M w.heap.size := fun h' => by have := (hd.own_ge _ h').2; omega
  have hbl : W.heap[w.heap.size]? = some (.cells #[.int .i64 e.kind, .int .i64 e.num, .int .i64 e.binder, .int .i64 e.first, .int .i64 e.second, .int .i64 e.third, .slice fa fn fc, .slice aa e.arms.length ac] 80 (0, 0)) := by rw [← hW]; exact blk_new w _
  have hrowW : W.ownsRow 0 92 2 (.slice aa e.arms.length ac) e.arms.length (armCells e.arms) := ownsRow_block hrow fun b hb => hFW.block b (hrow.lt b hb).2 id
  have HFW : Hid (Fr (fun _ => False) w W) := hFW
  have HL : Hid (∀ w' S' M' sg' bad', Fx q t root E P B cE W (.slice sa sg.length sc) M w' S' M' sg' bad' → w'.heap[w.heap.size]? = some (.cells #[.int .i64 e.kind, .int .i64 e.num, .int .i64 e.binder, .int .i64 e.first, .int .i64 e.second, .int .i64 e.third, .slice fa fn fc, .slice aa e.arms.length ac] 80 (0, 0)) ∧ w'.ownsRow 0 92 2 (.slice aa e.arms.length ac) e.arms.length (armCells e.arms)) :=
    fun w' S' M' sg' bad' hx => ⟨hx.blk hl hbl, ownsRow_block hrowW fun b hb => hx.2.1.block b (hrowW.lt b hb).2 (fun ho => by have := (hX0.1.own_ge b ho).1; have := hold b hb; omega)⟩
  obtain ⟨-, -, -, m3, -, -, -, m7⟩ := cells8 hbl
  clear hd hrow hold hl hbl hrowW hFW
  go_enter Tryd.func36, Tryd.ntmps36
  go_wp2_with fail
  refine (hX0.exp (ih _ _ _ HX.out)).mono ?_
  rintro r w1 ⟨rfl, S1, M1, hX1, -, -⟩
  have HW : Hid (w.alloc (.cells #[.int .i64 e.kind, .int .i64 e.num, .int .i64 e.binder, .int .i64 e.first, .int .i64 e.second, .int .i64 e.third, .slice fa fn fc, .slice aa e.arms.length ac] 80) = W) := hW
  clear hX0 m3 m7 HX hW
  obtain ⟨⟨-, -, -, c4, -, -⟩, -⟩ := hX1.1.cells
  obtain ⟨hbl1, -⟩ := HL.out _ _ _ _ _ hX1
  obtain ⟨-, -, -, -, -, -, -, m7⟩ := cells8 hbl1
  obtain ⟨sa1, sc1, rfl⟩ := ownsRow_len hX1.1.s
  clear hbl1
  go_wp2_with fail
  go_loopg [5] e.arms.length (fun m i wr => ∃ (k : Nat) (bk : Bool) (yk : Bool) (Sk Mk : Value), i = .int .i64 k ∧ k ≤ e.arms.length ∧ m = e.arms.length - k ∧ fArms t R n (e.arms.drop k) sg = some yk ∧ (bk || yk) = y ∧ Fx q t root E P B cE W (.slice sa sg.length sc) M wr Sk Mk sg (bad || x || bk))
  case atStart => exact ⟨0, false, y, _, _, rfl, Nat.zero_le _, by simp, by simpa using HY.out, by simp, by simpa using hX1⟩
  case round =>
    obtain ⟨k, bk, yk, Sk, Mk, rfl, hk, hm, hbn, hy1, hXk⟩ := hrel
    have HM : Hid (gk = e.arms.length - k) := hm
    clear hX1 hm HY c4 m7
    obtain ⟨hbl, hrw⟩ := HL.out _ _ _ _ _ hXk
    obtain ⟨-, -, -, -, -, -, -, m7⟩ := cells8 hbl
    have hlW := blk_lt hbl
    by_cases hlt : k < e.arms.length
    · obtain ⟨g, cap, hfe, d0, -⟩ := armRow hrw hlt
      cases hfe
      rw [List.drop_eq_getElem_cons hlt] at hbn
      unfold fArms at hbn
      obtain ⟨u, hu, hbn⟩ := Option.bind_eq_some_iff.1 hbn
      obtain ⟨v, hv, hbn⟩ := Option.bind_eq_some_iff.1 hbn
      obtain ⟨z, hz, hbn⟩ := Option.bind_eq_some_iff.1 hbn
      have HV : Hid (fArms t R n (e.arms.drop (k + 1)) sg = some z) := hz
      have HY1 : Hid ((bk || (u.2 || v) || z) = y) := by
        cases hbn
        show _ = y
        rw [Bool.or_assoc]; exact hy1
      obtain ⟨mx, hmx⟩ := fPat_pre _ _ _ _ hu
      have HMX : Hid (u.1 = sg ++ mx) := hmx
      clear hbn hz hy1 hbl hrw hmx
      go_wp2_with fail
      refine (hXk.pat (Nat.le_refl _) (fpat_ih t sg.length n _ _ _ hu)).mono ?_
      rintro r w2 ⟨rfl, S2, M2, hX2, -, -⟩
      clear hXk m7 d0 hlW
      obtain ⟨hbl, hrw⟩ := HL.out _ _ _ _ _ hX2
      obtain ⟨-, -, -, -, -, -, -, m7⟩ := cells8 hbl
      have hlW := blk_lt hbl
      obtain ⟨g', cap', hfe', -, d1⟩ := armRow hrw hlt
      cases hfe'
      clear hbl hrw
      go_wp2_with fail
      refine (hX2.exp (ih _ _ _ hv)).mono ?_
      rintro r w4 ⟨rfl, S4, M4, hX4, -, -⟩
      clear hX2 m7 d1 hlW
      rw [HMX.out] at hX4
      obtain ⟨⟨-, -, -, d4, -, -⟩, hf4⟩ := hX4.1.cells
      have e4 := hf4 4
      have hq4 := hX4.1.lt
      obtain ⟨sa', sc', hS4, hcap⟩ : ∃ sa' sc', S4 = .slice sa' (sg ++ mx).length sc' ∧ (sg ++ mx).length ≤ sc' := by
        rcases hX4.1.s.2 with ⟨h3, h0⟩ | ⟨g, cap, cur, h3, _, _, h6, _⟩
        · exact ⟨_, _, by rw [h3, h0], by rw [h0]; exact Nat.le_refl _⟩
        · exact ⟨_, _, h3, h6⟩
      subst hS4
      have HX5 : Hid (Fx q t root E P B cE W (.slice sa sg.length sc) M (w4.setCell ⟨q, 4, none⟩ (.slice sa' sg.length sc')) (.slice sa' sg.length sc') M4 sg (bad || x || bk || u.2 || v)) := hX4.back sa' sc' rfl
      have hle2 : sg.length ≤ sc' := by simp at hcap; omega
      have hle3 : sg.length ≤ (sg ++ mx).length := by simp
      clear hX4 hf4 hcap
      go_wp2_with fail
      go_roundg (e.arms.length - (k + 1))
      case measure => rw [HM.out]; omega
      case rel => exact ⟨k + 1, (bk || (u.2 || v)), z, _, M4, by go_num, by omega, rfl, HV.out, HY1.out, by simpa [Bool.or_assoc] using HX5.out⟩
    · obtain rfl : k = e.arms.length := by omega
      simp only [List.drop_length, fArms, Option.some.injEq] at hbn
      subst hbn
      simp only [Bool.or_false] at hy1
      subst hy1
      clear HM hlt hbl hrw
      go_wp2_with fail
      go_end0
      rw [Hb.out]
      exact ⟨rfl, Fn1.pre HFW.out (by simpa [Bool.or_assoc] using hXk.n1)⟩

end Go.Proofs.YtnbhnjokpcdnnaaDoor
