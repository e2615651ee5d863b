import Derived.Test.YtnbhnjokpcdnnaaDoorMA2
import Derived.Test.YtnbhnjokpcdnnaaDoorMA0
set_option linter.unusedVariables false
set_option linter.unusedSimpArgs false
namespace Go.Proofs.YtnbhnjokpcdnnaaDoor
open Go.RowKit

theorem mixed : Tryd.prog.follows .mixedOrders = true := by kernel_rfl
theorem Tryd.infoExp : (Tryd.prog.info? 80).map (fun i => (i.zero, i.size, i.bytes)) = some (some (.agg #[.int .i64 0, .int .i64 0, .int .i64 0, .int .i64 0, .int .i64 0, .int .i64 0, .slice none 0 0, .slice none 0 0]), 8, 96) := by kernel_rfl
theorem Tryd.infoPat : (Tryd.prog.info? 99).map (fun i => (i.zero, i.size, i.bytes)) = some (some (.agg #[.int .i64 0, .int .i64 0, .int .i64 0, .int .i64 0, .int .i64 0]), 5, 40) := by kernel_rfl
theorem Tryd.infoInt : (Tryd.prog.info? 3).map (fun i => (i.zero, i.size, i.bytes)) = some (some (.int .i64 0), 1, 8) := by kernel_rfl

def patCells (l : List PT) : List Value := l.flatMap fun p => [.int .i64 p.kind, .int .i64 p.num, .int .i64 p.binder, .int .i64 p.first, .int .i64 p.second]
def funCells (l : List (Int × Int × Int)) : List Value := l.flatMap fun p => [.int .i64 p.1, .int .i64 p.2.1, .int .i64 p.2.2]
def armCells (l : List (Int × Int)) : List Value := l.flatMap fun p => [.int .i64 p.1, .int .i64 p.2]
def wordCells (l : List (Int × Int)) : List Value := l.flatMap fun p => [.int .i64 p.1, .int .i64 p.2]

/-- What the reader may write: its own block, and the rows of its three lists. -/
def own (r : Nat) (E P B : Value) (b : Nat) : Prop := b = r ∨ E.ownBlock = some b ∨ P.ownBlock = some b ∨ B.ownBlock = some b

/-- The values of an expression's cells; its two lists lie in rows that the reader does not write. -/
structure ExpAt (w : World) (O : Nat → Prop) (x : EX) (vf va : Value) : Prop where
  f : w.ownsRow 0 96 3 vf x.funs.length (funCells x.funs)
  a : w.ownsRow 0 92 2 va x.arms.length (armCells x.arms)
  nf : ∀ b, vf.ownBlock = some b → ¬ O b
  na : ∀ b, va.ownBlock = some b → ¬ O b

def expCells (x : EX) (vf va : Value) : List Value := [.int .i64 x.kind, .int .i64 x.num, .int .i64 x.binder, .int .i64 x.first, .int .i64 x.second, .int .i64 x.third, vf, va]

def ExpsAt (w : World) (O : Nat → Prop) : List EX → List Value → Prop
  | [], c => c = []
  | x :: l, c => ∃ vf va c', c = expCells x vf va ++ c' ∧ ExpAt w O x vf va ∧ ExpsAt w O l c'

structure Rd (w : World) (r : Nat) (L : Value) (ws : List (Int × Int)) (s : RS) (E P B : Value) (cE : List Value) : Prop where
  blk : w.heap[r]? = some (.cells #[L, .int .i64 s.pos, .bool s.bad, E, P, .int .i64 0, B] 63 (0, 0))
  e : w.ownsRow (r + 1) 80 8 E s.exps.length cE
  eAt : ExpsAt w (own r E P B) s.exps cE
  p : w.ownsRow (r + 1) 99 5 P s.pats.length (patCells s.pats)
  b : w.ownsRow (r + 1) 3 1 B s.bnds.length (s.bnds.map (.int .i64))
  ep : ∀ b, E.ownBlock = some b → P.ownBlock ≠ some b
  eb : ∀ b, E.ownBlock = some b → B.ownBlock ≠ some b
  pb : ∀ b, P.ownBlock = some b → B.ownBlock ≠ some b
  wl : w.ownsRow 0 73 2 L ws.length (wordCells ws)
  wn : ∀ b, L.ownBlock = some b → b < r
  pos : s.pos ≤ ws.length
  len : ws.length ≤ 240

theorem own_ge {w : World} {r : Nat} {L : Value} {ws : List (Int × Int)} {s : RS} {E P B : Value} {cE : List Value} (h : Rd w r L ws s E P B cE) : ∀ b, own r E P B b → r ≤ b ∧ b < w.heap.size := by
  have hr : r < w.heap.size := (Array.getElem?_eq_some_iff.1 h.blk).1
  rintro b (rfl | hb | hb | hb)
  · exact ⟨Nat.le_refl _, hr⟩
  · have := h.e.lt b hb; omega
  · have := h.p.lt b hb; omega
  · have := h.b.lt b hb; omega

theorem ExpAt.fr {w w' : World} {O O' : Nat → Prop} {x : EX} {vf va : Value} (h : ExpAt w O x vf va) (hF : Fr O w w') (hO : ∀ b, O' b → O b ∨ w.heap.size ≤ b) : ExpAt w' O' x vf va := by
  refine ⟨ownsRow_block h.f fun b hb => hF.block b (h.f.lt b hb).2 (h.nf b hb), ownsRow_block h.a fun b hb => hF.block b (h.a.lt b hb).2 (h.na b hb), fun b hb ho => ?_, fun b hb ho => ?_⟩
  · rcases hO b ho with h1 | h1
    · exact h.nf b hb h1
    · have := (h.f.lt b hb).2; omega
  · rcases hO b ho with h1 | h1
    · exact h.na b hb h1
    · have := (h.a.lt b hb).2; omega

theorem ExpsAt.fr {w w' : World} {O O' : Nat → Prop} (hF : Fr O w w') (hO : ∀ b, O' b → O b ∨ w.heap.size ≤ b) : ∀ (l : List EX) (c : List Value), ExpsAt w O l c → ExpsAt w' O' l c
  | [], _, h => h
  | _ :: l, _, ⟨vf, va, c', hc, h1, h2⟩ => ⟨vf, va, c', hc, h1.fr hF hO, ExpsAt.fr hF hO l c' h2⟩

theorem ExpsAt.snoc {w : World} {O : Nat → Prop} {x : EX} {vf va : Value} (hx : ExpAt w O x vf va) : ∀ (l : List EX) (c : List Value), ExpsAt w O l c → ExpsAt w O (l ++ [x]) (c ++ expCells x vf va)
  | [], c, h => by
    have h' : c = [] := h
    subst h'
    exact ⟨vf, va, [], by simp, hx, rfl⟩
  | _ :: l, _, ⟨vf', va', c', hc, h1, h2⟩ => ⟨vf', va', c' ++ expCells x vf va, by rw [hc, List.append_assoc], h1, ExpsAt.snoc hx l c' h2⟩

/-- The blocks that cells lead to. -/
def Refs (c : List Value) (b : Nat) : Prop := ∃ v ∈ c, v.ownBlock = some b

def NoX (_ : Nat) : Prop := False

/-- Behind a step: how the reader stands; what it owns was its own, or is new; what its expressions lead to they led to, or it is new, or handed in (X). -/
def Nx (X : Nat → Prop) (r : Nat) (L : Value) (ws : List (Int × Int)) (w : World) (E P B : Value) (cE : List Value) (w' : World) (s' : RS) : Prop :=
  ∃ E' P' B' cE', Rd w' r L ws s' E' P' B' cE' ∧ Fr (own r E P B) w w' ∧ (∀ b, own r E' P' B' b → own r E P B b ∨ w.heap.size ≤ b) ∧ ∀ b, Refs cE' b → Refs cE b ∨ w.heap.size ≤ b ∨ X b

theorem Nx.trans {X : Nat → Prop} {r : Nat} {L : Value} {ws : List (Int × Int)} {w w1 w2 : World} {E P B E1 P1 B1 : Value} {cE c1 : List Value} {s2 : RS} (hF : Fr (own r E P B) w w1) (hO : ∀ b, own r E1 P1 B1 b → own r E P B b ∨ w.heap.size ≤ b)
    (hT : ∀ b, Refs c1 b → Refs cE b ∨ w.heap.size ≤ b ∨ NoX b) (h : Nx X r L ws w1 E1 P1 B1 c1 w2 s2) : Nx X r L ws w E P B cE w2 s2 := by
  obtain ⟨E2, P2, B2, c2, hR, hF2, hO2, hT2⟩ := h
  refine ⟨E2, P2, B2, c2, hR, hF.trans hF2 hO, fun b hb => ?_, fun b hb => ?_⟩
  · rcases hO2 b hb with h1 | h1
    · exact hO b h1
    · have := hF.size; omega
  · rcases hT2 b hb with h1 | h1 | h1
    · rcases hT b h1 with h2 | h2 | h2
      · exact .inl h2
      · exact .inr (.inl h2)
      · exact h2.elim
    · have := hF.size; right; left; omega
    · exact .inr (.inr h1)

theorem Nx.mono {X : Nat → Prop} {r : Nat} {L : Value} {ws : List (Int × Int)} {w w' : World} {E P B : Value} {cE : List Value} {s' : RS} (h : Nx X r L ws w E P B cE w' s') (hX : ∀ b, ¬ X b) : Nx NoX r L ws w E P B cE w' s' := by
  obtain ⟨E2, P2, B2, c2, hR, hF2, hO2, hT2⟩ := h
  refine ⟨E2, P2, B2, c2, hR, hF2, hO2, fun b hb => ?_⟩
  rcases hT2 b hb with h1 | h1 | h1
  · exact .inl h1
  · exact .inr (.inl h1)
  · exact (hX b h1).elim

/-- Where nothing of the reader's is written, it stands as it stood. -/
theorem Rd.fr {w w' : World} {r : Nat} {L : Value} {ws : List (Int × Int)} {s : RS} {E P B : Value} {cE : List Value} (h : Rd w r L ws s E P B cE) (hF : Fr (fun _ => False) w w') : Rd w' r L ws s E P B cE := by
  have hr : r < w.heap.size := (Array.getElem?_eq_some_iff.1 h.blk).1
  have hb : ∀ b, b < w.heap.size → w'.heap[b]? = w.heap[b]? := fun b hb => hF.block b hb id
  have hF' : Fr (own r E P B) w w' := hF.mono (fun _ h => h.elim)
  exact ⟨(hb r hr).trans h.blk, ownsRow_block h.e fun b h1 => hb b (h.e.lt b h1).2, ExpsAt.fr hF' (fun b h => .inl h) _ _ h.eAt, ownsRow_block h.p fun b h1 => hb b (h.p.lt b h1).2,
    ownsRow_block h.b fun b h1 => hb b (h.b.lt b h1).2, h.ep, h.eb, h.pb, ownsRow_block h.wl fun b h1 => hb b (h.wl.lt b h1).2, h.wn, h.pos, h.len⟩

theorem Rd.nx {w w' : World} {r : Nat} {L : Value} {ws : List (Int × Int)} {s : RS} {E P B : Value} {cE : List Value} (h : Rd w r L ws s E P B cE) (hF : Fr (fun _ => False) w w') : Nx NoX r L ws w E P B cE w' s :=
  ⟨E, P, B, cE, h.fr hF, hF.mono (fun _ h => h.elim), fun _ h => .inl h, fun _ h => .inl h⟩

/-- The reader's own cells. -/
theorem Rd.cells {w : World} {r : Nat} {L : Value} {ws : List (Int × Int)} {s : RS} {E P B : Value} {cE : List Value} (h : Rd w r L ws s E P B cE) :
    r < w.heap.size ∧ w.cell? ⟨r, 0, none⟩ = some L ∧ w.cell? ⟨r, 1, none⟩ = some (.int .i64 s.pos) ∧ w.cell? ⟨r, 2, none⟩ = some (.bool s.bad) ∧ w.cell? ⟨r, 3, none⟩ = some E ∧ w.cell? ⟨r, 4, none⟩ = some P ∧ w.cell? ⟨r, 6, none⟩ = some B ∧
      (∀ i, w.frozen? ⟨r, i, none⟩ = false) := by
  have hr : r < w.heap.size := (Array.getElem?_eq_some_iff.1 h.blk).1
  have hb := h.blk
  refine ⟨hr, ?_, ?_, ?_, ?_, ?_, ?_, ?_⟩ <;> simp [World.cell?, World.frozen?, hb]

end Go.Proofs.YtnbhnjokpcdnnaaDoor

namespace Go.Proofs.YtnbhnjokpcdnnaaDoor
open Go.RowKit

theorem wordCells_len (l : List (Int × Int)) : (wordCells l).length = l.length * 2 := by
  induction l with
  | nil => rfl
  | cons a l ih => simp [wordCells] at ih ⊢; omega

theorem wordCells_at : ∀ (l : List (Int × Int)) (i : Nat) (h : i < l.length), (wordCells l)[i * 2]? = some (.int .i64 l[i].1) ∧ (wordCells l)[i * 2 + 1]? = some (.int .i64 l[i].2)
  | [], _, h => by cases h
  | a :: l, 0, _ => by simp [wordCells]
  | a :: l, i + 1, h => by
    have := wordCells_at l i (by simpa using h)
    have e : wordCells (a :: l) = .int .i64 a.1 :: .int .i64 a.2 :: wordCells l := by simp [wordCells]
    rw [e, show (i + 1) * 2 = i * 2 + 2 by omega]
    simpa using this

/-- The word at the reader's place. -/
theorem Rd.word {w : World} {r : Nat} {L : Value} {ws : List (Int × Int)} {s : RS} {E P B : Value} {cE : List Value} (h : Rd w r L ws s E P B cE) (hlt : s.pos < ws.length) :
    ∃ lb lc, L = .slice (some ⟨lb, 0, none⟩) ws.length lc ∧ lb < w.heap.size ∧ w.cell? ⟨lb, s.pos * 2, none⟩ = some (.int .i64 (rPeek ws s).1) ∧ w.cell? ⟨lb, s.pos * 2 + 1, none⟩ = some (.int .i64 (rPeek ws s).2) := by
  have hl := h.wl
  rcases h.wl.2 with ⟨_, h0⟩ | ⟨g, cap, cur, rfl, hg⟩
  · omega
  · refine ⟨g, cap, rfl, (h.wl.lt g rfl).2, ?_, ?_⟩
    · rw [World.ownsRow.cellAt hl _ (by omega), (wordCells_at ws s.pos hlt).1]; simp [rPeek, hlt]
    · rw [World.ownsRow.cellAt hl _ (by omega), (wordCells_at ws s.pos hlt).2]; simp [rPeek, hlt]

set_option maxHeartbeats 400000 in
theorem peek_any (r : Nat) (L : Value) (ws : List (Int × Int)) (s : RS) (E P B : Value) (cE : List Value) (w : World) (hR : Rd w r L ws s E P B cE) :
    Calls Tryd.prog 26 #[.pointer (some ⟨r, 0, none⟩)] w fun e w' => e = .returned (.agg #[.int .i64 (rPeek ws s).1, .int .i64 (rPeek ws s).2]) ∧ Fr (fun _ => False) w w' := by
  obtain ⟨hr, c0, c1, -, -, -, -, -⟩ := hR.cells
  have hlen := hR.len
  by_cases hlt : s.pos < ws.length
  · obtain ⟨lb, lc, rfl, hlb, d0, d1⟩ := hR.word hlt
    clear hR
    generalize (rPeek ws s).1 = k at *
    generalize (rPeek ws s).2 = n at *
    go_enter Tryd.func26, Tryd.ntmps26
    go_wp2
    go_quiet (fail)
    go_wp2
    go_region
    go_wp2
    exact bodyPost_ret (v := .agg #[.int .i64 k, .int .i64 n]) (by simp [results, Tryd.results26, go_sem]) rfl ⟨rfl, (((((Fr.refl _ _).alloc _).drewN _).setCell (.inr (Nat.le_refl _)) _).setCell (.inr (Nat.le_refl _)) _)⟩
  · obtain ⟨la, lc, rfl⟩ := ownsRow_len hR.wl
    have hk : rPeek ws s = (0, 0) := by simp [rPeek, hlt]
    rw [hk]
    clear hR hk
    go_enter Tryd.func26, Tryd.ntmps26
    go_wp2
    go_quiet (fail)
    go_wp2
    exact bodyPost_ret (v := .agg #[.int .i64 0, .int .i64 0]) (by simp [results, Tryd.results26, go_sem]) rfl ⟨rfl, by
      repeat (first | exact Fr.refl _ _ | refine Fr.setCell ?_ (.inr (Nat.le_refl _)) _ | refine Fr.drewN ?_ _ | refine Fr.drew ?_ | refine Fr.alloc ?_ _)⟩

end Go.Proofs.YtnbhnjokpcdnnaaDoor

namespace Go.Proofs.YtnbhnjokpcdnnaaDoor
open Go.RowKit

theorem heap_setCell_same {w : World} {r i : Nat} {c : Array Value} {t : TypeId} {f : Nat × Nat} (v : Value) (h : w.heap[r]? = some (.cells c t f)) : (w.setCell ⟨r, i, none⟩ v).heap[r]? = some (.cells (c.setIfInBounds i v) t f) := by
  simp [World.setCell, Array.getElem?_modify, h]

theorem blk_set {w : World} {r i : Nat} {c c' : Array Value} {t : TypeId} {f : Nat × Nat} {v : Value} (h : w.heap[r]? = some (.cells c t f)) (hc : c.setIfInBounds i v = c') : (w.setCell ⟨r, i, none⟩ v).heap[r]? = some (.cells c' t f) := by
  rw [heap_setCell_same v h, hc]

theorem Rd.put {w w' : World} {r : Nat} {L : Value} {ws : List (Int × Int)} {s : RS} {E P B : Value} {cE : List Value} (h : Rd w r L ws s E P B cE) (p : Nat) (bad : Bool) (hp : p ≤ ws.length)
    (hb : w'.heap[r]? = some (.cells #[L, .int .i64 p, .bool bad, E, P, .int .i64 0, B] 63 (0, 0))) (hF : Fr (fun b => b = r) w w') : Rd w' r L ws { s with pos := p, bad := bad } E P B cE := by
  have hr : r < w.heap.size := (Array.getElem?_eq_some_iff.1 h.blk).1
  have hn : ∀ b, b < w.heap.size → r + 1 ≤ b → w'.heap[b]? = w.heap[b]? := fun b h1 h2 => hF.block b h1 (by omega)
  have hF' : Fr (own r E P B) w w' := hF.mono (fun _ h => .inl (.inl h))
  exact ⟨hb, ownsRow_block h.e fun b h1 => hn b (h.e.lt b h1).2 (h.e.lt b h1).1, ExpsAt.fr hF' (fun b h => .inl h) _ _ h.eAt, ownsRow_block h.p fun b h1 => hn b (h.p.lt b h1).2 (h.p.lt b h1).1,
    ownsRow_block h.b fun b h1 => hn b (h.b.lt b h1).2 (h.b.lt b h1).1, h.ep, h.eb, h.pb, ownsRow_block h.wl fun b h1 => hF.block b (h.wl.lt b h1).2 (by have := h.wn b h1; omega), h.wn, hp, h.len⟩

theorem Rd.nxPut {w w' : World} {r : Nat} {L : Value} {ws : List (Int × Int)} {s : RS} {E P B : Value} {cE : List Value} (h : Rd w r L ws s E P B cE) (p : Nat) (bad : Bool) (hp : p ≤ ws.length)
    (hb : w'.heap[r]? = some (.cells #[L, .int .i64 p, .bool bad, E, P, .int .i64 0, B] 63 (0, 0))) (hF : Fr (fun b => b = r) w w') : Nx NoX r L ws w E P B cE w' { s with pos := p, bad := bad } :=
  ⟨E, P, B, cE, h.put p bad hp hb hF, hF.mono (fun _ h => .inl (.inl h)), fun _ h => .inl h, fun _ h => .inl h⟩

set_option maxHeartbeats 400000 in
theorem step_any (r : Nat) (L : Value) (ws : List (Int × Int)) (s : RS) (E P B : Value) (cE : List Value) (w : World) (hR : Rd w r L ws s E P B cE) :
    Calls Tryd.prog 48 #[.pointer (some ⟨r, 0, none⟩)] w fun e w' => e = .returned (.tuple #[]) ∧ Nx NoX r L ws w E P B cE w' (rStep ws s) := by
  obtain ⟨hr, c0, c1, -, -, -, -, hfz⟩ := hR.cells
  have hlen := hR.len
  obtain ⟨la, lc, rfl⟩ := ownsRow_len hR.wl
  by_cases hlt : s.pos < ws.length
  · have hN : ∀ w', w'.heap[r]? = some (.cells #[.slice la ws.length lc, .int .i64 (s.pos + 1 : Nat), .bool s.bad, E, P, .int .i64 0, B] 63 (0, 0)) → Fr (fun b => b = r) w w' → Nx NoX r (.slice la ws.length lc) ws w E P B cE w' (rStep ws s) := by
      intro w' h1 h2
      have := hR.nxPut (s.pos + 1) s.bad (by omega) h1 h2
      simpa [rStep, hlt] using this
    have hblk := hR.blk
    have H1 : Hid (w.heap[r]? = some (.cells #[.slice la ws.length lc, .int .i64 s.pos, .bool s.bad, E, P, .int .i64 0, B] 63 (0, 0))) := hblk
    have H2 := hN
    clear hR hblk hN
    have HN : Hid (∀ w', w'.heap[r]? = some (.cells #[.slice la ws.length lc, .int .i64 (s.pos + 1 : Nat), .bool s.bad, E, P, .int .i64 0, B] 63 (0, 0)) → Fr (fun b => b = r) w w' → Nx NoX r (.slice la ws.length lc) ws w E P B cE w' (rStep ws s)) := H2
    clear H2
    have f1 := hfz 1
    clear hfz
    go_enter Tryd.func48, Tryd.ntmps48
    go_wp2
    go_quiet (fail)
    go_wp2
    go_end0
    refine ⟨rfl, HN.out _ ?_ ?_⟩
    · exact blk_set H1.out (by simp)
    · exact (by repeat (first | with_reducible exact Fr.refl _ _ | (with_reducible refine Fr.drew ?_) | (with_reducible refine Fr.drewN ?_ _) | (with_reducible refine Fr.alloc ?_ _) | ((with_reducible refine Fr.setCell ?_ ?_ _); rotate_left; first | exact .inl rfl | exact .inr (Nat.le_refl _) | exact .inl (Nat.le_refl _) | (focus (left; simp; done)) | (focus (left; simp; omega)) | (focus (left; omega)) | (focus (right; simp; done)) | (focus (right; simp; omega)) | (focus (right; omega))) | exact Fr.refl _ _))
  · have hN : ∀ w', Fr (fun _ => False) w w' → Nx NoX r (.slice la ws.length lc) ws w E P B cE w' (rStep ws s) := by
      intro w' h
      have := hR.nx h
      simpa [rStep, hlt] using this
    have HN : Hid (∀ w', Fr (fun _ => False) w w' → Nx NoX r (.slice la ws.length lc) ws w E P B cE w' (rStep ws s)) := hN
    clear hR hN hfz
    go_enter Tryd.func48, Tryd.ntmps48
    go_wp2
    go_quiet (fail)
    go_wp2
    go_end0
    exact ⟨rfl, HN.out _ ((Fr.refl _ _).drewN _)⟩

set_option maxHeartbeats 400000 in
theorem fail_any (r : Nat) (L : Value) (ws : List (Int × Int)) (s : RS) (E P B : Value) (cE : List Value) (w : World) (hR : Rd w r L ws s E P B cE) :
    Calls Tryd.prog 51 #[.pointer (some ⟨r, 0, none⟩)] w fun e w' => e = .returned (.tuple #[]) ∧ Nx NoX r L ws w E P B cE w' (rFail ws s) := by
  obtain ⟨hr, c0, c1, c2, -, -, -, hfz⟩ := hR.cells
  have hlen := hR.len
  obtain ⟨la, lc, rfl⟩ := ownsRow_len hR.wl
  have HN : Hid (∀ w', w'.heap[r]? = some (.cells #[.slice la ws.length lc, .int .i64 ws.length, .bool true, E, P, .int .i64 0, B] 63 (0, 0)) → Fr (fun b => b = r) w w' → Nx NoX r (.slice la ws.length lc) ws w E P B cE w' (rFail ws s)) :=
    fun w' h1 h2 => hR.nxPut ws.length true (Nat.le_refl _) h1 h2
  have H1 : Hid (w.heap[r]? = some (.cells #[.slice la ws.length lc, .int .i64 s.pos, .bool s.bad, E, P, .int .i64 0, B] 63 (0, 0))) := hR.blk
  have f1 := hfz 1
  have f2 := hfz 2
  clear hR hfz
  go_enter Tryd.func51, Tryd.ntmps51
  go_wp2
  go_end0
  refine ⟨rfl, HN.out _ ?_ ?_⟩
  · exact blk_set (blk_set H1.out rfl) (by simp)
  · exact (by repeat (first | with_reducible exact Fr.refl _ _ | (with_reducible refine Fr.drew ?_) | (with_reducible refine Fr.drewN ?_ _) | (with_reducible refine Fr.alloc ?_ _) | ((with_reducible refine Fr.setCell ?_ ?_ _); rotate_left; first | exact .inl rfl | exact .inr (Nat.le_refl _) | exact .inl (Nat.le_refl _) | (focus (left; simp; done)) | (focus (left; simp; omega)) | (focus (left; omega)) | (focus (right; simp; done)) | (focus (right; simp; omega)) | (focus (right; omega))) | exact Fr.refl _ _))

end Go.Proofs.YtnbhnjokpcdnnaaDoor

namespace Go.Proofs.YtnbhnjokpcdnnaaDoor
open Go.RowKit

theorem fieldWord0 (a b : Int) (w : World) : (Instr.field 73 (.agg #[.int .i64 a, .int .i64 b]) 0).run Tryd.prog w = .ok (.int .i64 a) w := by kernel_rfl
theorem fieldWord1 (a b : Int) (w : World) : (Instr.field 73 (.agg #[.int .i64 a, .int .i64 b]) 1).run Tryd.prog w = .ok (.int .i64 b) w := by kernel_rfl
attribute [local go_sem] fieldWord0 fieldWord1

theorem Nx.self {w w1 w2 : World} {r : Nat} {L : Value} {ws : List (Int × Int)} {E P B : Value} {cE : List Value} {s2 : RS} (hF : Fr (fun _ => False) w w1) (h : Nx NoX r L ws w1 E P B cE w2 s2) : Nx NoX r L ws w E P B cE w2 s2 :=
  Nx.trans (hF.mono (fun _ h => h.elim)) (fun _ h => .inl h) (fun _ h => .inl h) h

set_option maxHeartbeats 400000 in
set_option maxRecDepth 100000 in
theorem take_any (r : Nat) (L : Value) (ws : List (Int × Int)) (s : RS) (E P B : Value) (cE : List Value) (k : Int) (w : World) (hR : Rd w r L ws s E P B cE) :
    Calls Tryd.prog 41 #[.pointer (some ⟨r, 0, none⟩), .int .i64 k] w fun e w' => e = .returned (.bool (rTake ws k s).2) ∧ Nx NoX r L ws w E P B cE w' (rTake ws k s).1 := by
  by_cases hk : (rPeek ws s).1 = k
  · have e1 : rTake ws k s = (rStep ws s, true) := by simp [rTake, hk]
    rw [e1]
    have hb : ((rPeek ws s).1 != k) = false := by simp [hk]
    have HR : Hid (Rd w r L ws s E P B cE) := hR
    clear hR hk e1
    go_enter Tryd.func41, Tryd.ntmps41
    go_wp2_with fail
    refine (peek_any r L ws s E P B cE _ HR.out).mono ?_
    rintro e w1 ⟨rfl, hF⟩
    go_wp2_with fail
    refine (step_any r L ws s E P B cE _ (HR.out.fr hF)).mono ?_
    rintro e w2 ⟨rfl, hN⟩
    go_wp2_with fail
    go_ret
    exact ⟨rfl, hN.self hF⟩
  · have e1 : rTake ws k s = (s, false) := by simp [rTake, hk]
    rw [e1]
    have hb : ((rPeek ws s).1 != k) = true := by simp [hk]
    have HR : Hid (Rd w r L ws s E P B cE) := hR
    clear hR hk e1
    go_enter Tryd.func41, Tryd.ntmps41
    go_wp2_with fail
    refine (peek_any r L ws s E P B cE _ HR.out).mono ?_
    rintro e w1 ⟨rfl, hF⟩
    go_wp2_with fail
    go_ret
    exact ⟨rfl, HR.out.nx hF⟩

set_option maxHeartbeats 400000 in
set_option maxRecDepth 100000 in
theorem want_any (r : Nat) (L : Value) (ws : List (Int × Int)) (s : RS) (E P B : Value) (cE : List Value) (k : Int) (w : World) (hR : Rd w r L ws s E P B cE) :
    Calls Tryd.prog 40 #[.pointer (some ⟨r, 0, none⟩), .int .i64 k] w fun e w' => e = .returned (.tuple #[]) ∧ Nx NoX r L ws w E P B cE w' (rWant ws k s) := by
  cases hk : (rTake ws k s).2
  · have e1 : rWant ws k s = rFail ws (rTake ws k s).1 := by simp [rWant, hk]
    rw [e1]
    have HR : Hid (Rd w r L ws s E P B cE) := hR
    clear hR e1
    go_enter Tryd.func40, Tryd.ntmps40
    go_wp2_with fail
    refine (take_any r L ws s E P B cE k _ HR.out).mono ?_
    rintro e w1 ⟨rfl, E1, P1, B1, c1, hR1, hF1, hO1, hT1⟩
    go_wp2_with fail
    refine (fail_any r L ws _ E1 P1 B1 c1 _ hR1).mono ?_
    rintro e w2 ⟨rfl, hN⟩
    go_wp2_with fail
    go_end0
    exact ⟨rfl, Nx.trans hF1 hO1 hT1 hN⟩
  · have e1 : rWant ws k s = (rTake ws k s).1 := by simp [rWant, hk]
    rw [e1]
    have HR : Hid (Rd w r L ws s E P B cE) := hR
    clear hR e1
    go_enter Tryd.func40, Tryd.ntmps40
    go_wp2_with fail
    refine (take_any r L ws s E P B cE k _ HR.out).mono ?_
    rintro e w1 ⟨rfl, hN⟩
    go_wp2_with fail
    go_end0
    exact ⟨rfl, hN⟩

end Go.Proofs.YtnbhnjokpcdnnaaDoor

namespace Go.Proofs.YtnbhnjokpcdnnaaDoor
open Go.RowKit

theorem grown_at {w w0 w1 : World} {r : Nat} {row : Option Nat} (hr : r < w.heap.size) (hF : Fr (fun _ => False) w w0) (hg : w0.grownBy w1 row) (hrow : ∀ b, row = some b → r + 1 ≤ b) (i : Nat) :
    w1.cell? ⟨r, i, none⟩ = w.cell? ⟨r, i, none⟩ ∧ w1.frozen? ⟨r, i, none⟩ = w.frozen? ⟨r, i, none⟩ := by
  have h1 : w1.heap[r]? = w.heap[r]? := (hg.block r (Nat.lt_of_lt_of_le hr hF.size) (fun e => by have := hrow r e.symm; omega)).trans (hF.block r hr id)
  exact ⟨World.cell?_of_block h1, World.frozen?_of_block h1⟩

theorem Refs.snoc {c : List Value} {x : EX} {vf va : Value} {b n : Nat} (h : Refs (c ++ expCells x vf va) b) : Refs c b ∨ n ≤ b ∨ (vf.ownBlock = some b ∨ va.ownBlock = some b) := by
  obtain ⟨v, hv, hb⟩ := h
  rcases List.mem_append.1 hv with h1 | h1
  · exact .inl ⟨v, h1, hb⟩
  · simp only [expCells, List.mem_cons, List.not_mem_nil, or_false] at h1
    rcases h1 with rfl | rfl | rfl | rfl | rfl | rfl | rfl | rfl
    all_goals first | (simp [Value.ownBlock] at hb; done) | exact .inr (.inr (.inl hb)) | exact .inr (.inr (.inr hb))

theorem Rd.grewE {w w0 w1 : World} {r : Nat} {L : Value} {ws : List (Int × Int)} {s : RS} {E P B v' : Value} {cE : List Value} {x : EX} {vf va : Value} (h : Rd w r L ws s E P B cE) (hF : Fr (fun _ => False) w w0) (hg : w0.grownBy w1 E.ownBlock)
    (hown : w1.ownsRow (r + 1) 80 8 v' (s.exps.length + 1) (cE ++ expCells x vf va)) (hv : v'.ownBlock = E.ownBlock ∨ v'.ownBlock = some w0.heap.size) (hx : ExpAt w (own r E P B) x vf va) : Nx (fun b => vf.ownBlock = some b ∨ va.ownBlock = some b) r L ws w E P B cE (w1.setCell ⟨r, 3, none⟩ v') (rExp x s).1 := by
  have hr : r < w.heap.size := (Array.getElem?_eq_some_iff.1 h.blk).1
  have hge := own_ge h
  have hVr : ∀ b, E.ownBlock = some b → r + 1 ≤ b := fun b hb => (h.e.lt b hb).1
  have hsz := hF.size
  have hb1 : ∀ b, b < w.heap.size → E.ownBlock ≠ some b → w1.heap[b]? = w.heap[b]? := fun b h1 h2 => (hg.block b (by omega) (fun e => h2 e.symm)).trans (hF.block b h1 id)
  have hb2 : ∀ b, b < w.heap.size → E.ownBlock ≠ some b → b ≠ r → (w1.setCell ⟨r, 3, none⟩ v').heap[b]? = w.heap[b]? := fun b h1 h2 h3 => (Below.heap_setCell _ _ _ _ h3).trans (hb1 b h1 h2)
  have hFr : Fr (own r E P B) w (w1.setCell ⟨r, 3, none⟩ v') := ((hF.mono (fun _ h => h.elim)).grown hg (fun k hk => .inl (.inr (.inl hk)))).setCell (.inl (.inl rfl)) _
  have hO : ∀ b, own r v' P B b → own r E P B b ∨ w.heap.size ≤ b := by
    rintro b (rfl | hb | hb | hb)
    · exact .inl (.inl rfl)
    · rcases hv with h1 | h1
      · rw [h1] at hb; exact .inl (.inr (.inl hb))
      · rw [h1] at hb; cases hb; exact .inr hsz
    · exact .inl (.inr (.inr (.inl hb)))
    · exact .inl (.inr (.inr (.inr hb)))
  have hnew : ∀ b, v'.ownBlock = some b → E.ownBlock = some b ∨ w.heap.size ≤ b := fun b hb => by
    rcases hv with h1 | h1
    · exact .inl (h1 ▸ hb)
    · rw [h1] at hb; cases hb; exact .inr hsz
  refine ⟨v', P, B, cE ++ expCells x vf va, ⟨?_, ?_, ?_, ?_, ?_, ?_, ?_, ?_, ?_, h.wn, h.pos, h.len⟩, hFr, hO, fun b hb => Refs.snoc hb⟩
  · exact blk_set ((hb1 r hr (fun e => by have := hVr r e; omega)).trans h.blk) (by simp [rExp])
  · simpa [rExp] using ownsRow_block hown fun b h1 => Below.heap_setCell _ _ _ _ (by have := (hown.lt b h1).1; show b ≠ r; omega)
  · exact ExpsAt.snoc (hx.fr hFr hO) _ _ (ExpsAt.fr hFr hO _ _ h.eAt)
  · exact ownsRow_block h.p fun b h1 => hb2 b (h.p.lt b h1).2 (fun e => h.ep b e h1) (by have := (h.p.lt b h1).1; omega)
  · exact ownsRow_block h.b fun b h1 => hb2 b (h.b.lt b h1).2 (fun e => h.eb b e h1) (by have := (h.b.lt b h1).1; omega)
  · intro b hb hp
    rcases hnew b hb with h1 | h1
    · exact h.ep b h1 hp
    · have := (h.p.lt b hp).2; omega
  · intro b hb hp
    rcases hnew b hb with h1 | h1
    · exact h.eb b h1 hp
    · have := (h.b.lt b hp).2; omega
  · exact h.pb
  · exact ownsRow_block h.wl fun b h1 => hb2 b (h.wl.lt b h1).2 (fun e => by have := hVr b e; have := h.wn b h1; omega) (by have := h.wn b h1; omega)

theorem Rd.grewP {w w0 w1 : World} {r : Nat} {L : Value} {ws : List (Int × Int)} {s : RS} {E P B v' : Value} {cE : List Value} {x : PT} (h : Rd w r L ws s E P B cE) (hF : Fr (fun _ => False) w w0) (hg : w0.grownBy w1 P.ownBlock)
    (hown : w1.ownsRow (r + 1) 99 5 v' (s.pats.length + 1) (patCells s.pats ++ patCells [x])) (hv : v'.ownBlock = P.ownBlock ∨ v'.ownBlock = some w0.heap.size) : Nx NoX r L ws w E P B cE (w1.setCell ⟨r, 4, none⟩ v') (rPat x s).1 := by
  have hr : r < w.heap.size := (Array.getElem?_eq_some_iff.1 h.blk).1
  have hge := own_ge h
  have hVr : ∀ b, P.ownBlock = some b → r + 1 ≤ b := fun b hb => (h.p.lt b hb).1
  have hsz := hF.size
  have hb1 : ∀ b, b < w.heap.size → P.ownBlock ≠ some b → w1.heap[b]? = w.heap[b]? := fun b h1 h2 => (hg.block b (by omega) (fun e => h2 e.symm)).trans (hF.block b h1 id)
  have hb2 : ∀ b, b < w.heap.size → P.ownBlock ≠ some b → b ≠ r → (w1.setCell ⟨r, 4, none⟩ v').heap[b]? = w.heap[b]? := fun b h1 h2 h3 => (Below.heap_setCell _ _ _ _ h3).trans (hb1 b h1 h2)
  have hFr : Fr (own r E P B) w (w1.setCell ⟨r, 4, none⟩ v') := ((hF.mono (fun _ h => h.elim)).grown hg (fun k hk => .inl (.inr (.inr (.inl hk))))).setCell (.inl (.inl rfl)) _
  have hO : ∀ b, own r E v' B b → own r E P B b ∨ w.heap.size ≤ b := by
    rintro b (rfl | hb | hb | hb)
    · exact .inl (.inl rfl)
    · exact .inl (.inr (.inl hb))
    · rcases hv with h1 | h1
      · rw [h1] at hb; exact .inl (.inr (.inr (.inl hb)))
      · rw [h1] at hb; cases hb; exact .inr hsz
    · exact .inl (.inr (.inr (.inr hb)))
  have hnew : ∀ b, v'.ownBlock = some b → P.ownBlock = some b ∨ w.heap.size ≤ b := fun b hb => by
    rcases hv with h1 | h1
    · exact .inl (h1 ▸ hb)
    · rw [h1] at hb; cases hb; exact .inr hsz
  refine ⟨E, v', B, cE, ⟨?_, ?_, ?_, ?_, ?_, ?_, ?_, ?_, ?_, h.wn, h.pos, h.len⟩, hFr, hO, fun _ h => .inl h⟩
  · exact blk_set ((hb1 r hr (fun e => by have := hVr r e; omega)).trans h.blk) (by simp [rPat])
  · exact ownsRow_block h.e fun b h1 => hb2 b (h.e.lt b h1).2 (h.ep b h1) (by have := (h.e.lt b h1).1; omega)
  · exact ExpsAt.fr hFr hO _ _ h.eAt
  · simpa [rPat, patCells] using ownsRow_block hown fun b h1 => Below.heap_setCell _ _ _ _ (by have := (hown.lt b h1).1; show b ≠ r; omega)
  · exact ownsRow_block h.b fun b h1 => hb2 b (h.b.lt b h1).2 (fun e => h.pb b e h1) (by have := (h.b.lt b h1).1; omega)
  · intro b hb hp
    rcases hnew b hp with h1 | h1
    · exact h.ep b hb h1
    · have := (h.e.lt b hb).2; omega
  · exact h.eb
  · intro b hb hp
    rcases hnew b hb with h1 | h1
    · exact h.pb b h1 hp
    · have := (h.b.lt b hp).2; omega
  · exact ownsRow_block h.wl fun b h1 => hb2 b (h.wl.lt b h1).2 (fun e => by have := hVr b e; have := h.wn b h1; omega) (by have := h.wn b h1; omega)

theorem Rd.grewB {w w0 w1 : World} {r : Nat} {L : Value} {ws : List (Int × Int)} {s : RS} {E P B v' : Value} {cE : List Value} {x : Int} (h : Rd w r L ws s E P B cE) (hF : Fr (fun _ => False) w w0) (hg : w0.grownBy w1 B.ownBlock)
    (hown : w1.ownsRow (r + 1) 3 1 v' (s.bnds.length + 1) (s.bnds.map (.int .i64) ++ [.int .i64 x])) (hv : v'.ownBlock = B.ownBlock ∨ v'.ownBlock = some w0.heap.size) : Nx NoX r L ws w E P B cE (w1.setCell ⟨r, 6, none⟩ v') { s with bnds := s.bnds ++ [x] } := by
  have hr : r < w.heap.size := (Array.getElem?_eq_some_iff.1 h.blk).1
  have hge := own_ge h
  have hVr : ∀ b, B.ownBlock = some b → r + 1 ≤ b := fun b hb => (h.b.lt b hb).1
  have hsz := hF.size
  have hb1 : ∀ b, b < w.heap.size → B.ownBlock ≠ some b → w1.heap[b]? = w.heap[b]? := fun b h1 h2 => (hg.block b (by omega) (fun e => h2 e.symm)).trans (hF.block b h1 id)
  have hb2 : ∀ b, b < w.heap.size → B.ownBlock ≠ some b → b ≠ r → (w1.setCell ⟨r, 6, none⟩ v').heap[b]? = w.heap[b]? := fun b h1 h2 h3 => (Below.heap_setCell _ _ _ _ h3).trans (hb1 b h1 h2)
  have hFr : Fr (own r E P B) w (w1.setCell ⟨r, 6, none⟩ v') := ((hF.mono (fun _ h => h.elim)).grown hg (fun k hk => .inl (.inr (.inr (.inr hk))))).setCell (.inl (.inl rfl)) _
  have hO : ∀ b, own r E P v' b → own r E P B b ∨ w.heap.size ≤ b := by
    rintro b (rfl | hb | hb | hb)
    · exact .inl (.inl rfl)
    · exact .inl (.inr (.inl hb))
    · exact .inl (.inr (.inr (.inl hb)))
    · rcases hv with h1 | h1
      · rw [h1] at hb; exact .inl (.inr (.inr (.inr hb)))
      · rw [h1] at hb; cases hb; exact .inr hsz
  have hnew : ∀ b, v'.ownBlock = some b → B.ownBlock = some b ∨ w.heap.size ≤ b := fun b hb => by
    rcases hv with h1 | h1
    · exact .inl (h1 ▸ hb)
    · rw [h1] at hb; cases hb; exact .inr hsz
  refine ⟨E, P, v', cE, ⟨?_, ?_, ?_, ?_, ?_, ?_, ?_, ?_, ?_, h.wn, h.pos, h.len⟩, hFr, hO, fun _ h => .inl h⟩
  · exact blk_set ((hb1 r hr (fun e => by have := hVr r e; omega)).trans h.blk) (by simp)
  · exact ownsRow_block h.e fun b h1 => hb2 b (h.e.lt b h1).2 (h.eb b h1) (by have := (h.e.lt b h1).1; omega)
  · exact ExpsAt.fr hFr hO _ _ h.eAt
  · exact ownsRow_block h.p fun b h1 => hb2 b (h.p.lt b h1).2 (h.pb b h1) (by have := (h.p.lt b h1).1; omega)
  · simpa [List.map_append] using ownsRow_block hown fun b h1 => Below.heap_setCell _ _ _ _ (by have := (hown.lt b h1).1; show b ≠ r; omega)
  · exact h.ep
  · intro b hb hp
    rcases hnew b hp with h1 | h1
    · exact h.eb b hb h1
    · have := (h.e.lt b hb).2; omega
  · intro b hb hp
    rcases hnew b hp with h1 | h1
    · exact h.pb b hb h1
    · have := (h.p.lt b hb).2; omega
  · exact ownsRow_block h.wl fun b h1 => hb2 b (h.wl.lt b h1).2 (fun e => by have := hVr b e; have := h.wn b h1; omega) (by have := h.wn b h1; omega)

theorem slExp : SlT Tryd.prog 43 80 (.agg #[.int .i64 0, .int .i64 0, .int .i64 0, .int .i64 0, .int .i64 0, .int .i64 0, .slice none 0 0, .slice none 0 0]) 8 96 := ⟨Tryd.underlying43, info_parts Tryd.infoExp, rfl, by decide⟩
theorem slPat : SlT Tryd.prog 44 99 (.agg #[.int .i64 0, .int .i64 0, .int .i64 0, .int .i64 0, .int .i64 0]) 5 40 := ⟨Tryd.underlying44, info_parts Tryd.infoPat, rfl, by decide⟩
theorem slInt : SlT Tryd.prog 22 3 (.int .i64 0) 1 8 := ⟨Tryd.underlying22, info_parts Tryd.infoInt, rfl, by decide⟩

end Go.Proofs.YtnbhnjokpcdnnaaDoor

namespace Go.Proofs.YtnbhnjokpcdnnaaDoor
open Go.RowKit
attribute [local go_sem] fieldWord0 fieldWord1

set_option maxHeartbeats 800000 in
set_option maxRecDepth 100000 in
theorem addExp_any (r : Nat) (L : Value) (ws : List (Int × Int)) (s : RS) (E P B : Value) (cE : List Value) (x : EX) (vf va : Value) (w : World) (hR : Rd w r L ws s E P B cE)
    (hx : ExpAt w (own r E P B) x vf va) (hn : s.exps.length ≤ 100000) :
    Calls Tryd.prog 44 #[.pointer (some ⟨r, 0, none⟩), .agg (expCells x vf va).toArray] w fun e w' => e = .returned (.int .i64 (rExp x s).2) ∧ Nx (fun b => vf.ownBlock = some b ∨ va.ownBlock = some b) r L ws w E P B cE w' (rExp x s).1 := by
  obtain ⟨hr, -, -, -, c3, -, -, hfz⟩ := hR.cells
  have f3 := hfz 3
  have hE := hR.e
  have HR : Hid (Rd w r L ws s E P B cE) := hR
  have HX : Hid (ExpAt w (own r E P B) x vf va) := hx
  have HEr : Hid (∀ b, E.ownBlock = some b → r + 1 ≤ b) := fun b hb => (hE.lt b hb).1
  obtain ⟨fa, fc, rfl⟩ := ownsRow_len hx.f
  obtain ⟨aa, ac, rfl⟩ := ownsRow_len hx.a
  obtain ⟨ea, ec, rfl⟩ := ownsRow_len hE
  clear hR hx hfz
  unfold expCells
  go_enter Tryd.func44, Tryd.ntmps44
  go_wp2
  go_region_law (refine step_app slExp rfl (.tmp 10) (.tmp 12) rfl (r + 1) s.exps.length cE _ rfl (((hE.alloc _).drew).alloc _) ⟨w.heap.size + 1, 0, none⟩ 1 1 [.int .i64 x.kind, .int .i64 x.num, .int .i64 x.binder, .int .i64 x.first, .int .i64 x.second, .int .i64 x.third, .slice fa x.funs.length fc, .slice aa x.arms.length ac] rfl rfl (by intro j u hj; match j, hj with | 0, hj | 1, hj | 2, hj | 3, hj | 4, hj | 5, hj | 6, hj | 7, hj => simp at hj; subst hj; simp [Addr.add]) (by intro u hu; simp at hu; rcases hu with rfl | rfl | rfl | rfl | rfl | rfl | rfl | rfl <;> rfl) (by decide) (by unfold maxLen; omega) (by omega) (by simp; omega) ?_; rintro v' w1 hown hgrow hv ⟨g, cap, rfl⟩; obtain ⟨k3, g3⟩ := grown_at hr (by exact ((((Fr.refl _ w).alloc _).drew).alloc _)) hgrow HEr.out 3; rw [c3] at k3; rw [f3] at g3; have HN : Hid (Nx (fun b => (Value.slice fa x.funs.length fc).ownBlock = some b ∨ (Value.slice aa x.arms.length ac).ownBlock = some b) r L ws w (.slice ea s.exps.length ec) P B cE (w1.setCell ⟨r, 3, none⟩ (.slice (some ⟨g, 0, none⟩) (s.exps.length + 1) cap)) (rExp x s).1) := HR.out.grewE (by exact ((((Fr.refl _ w).alloc _).drew).alloc _)) hgrow hown hv HX.out; clear hown hgrow hv)
  all_goals
    go_wp2
    go_ret
    exact ⟨ret_int (by simp [rExp]), HN.out⟩

/-- .. its cells written out. -/
theorem addExp_at (r : Nat) (L : Value) (ws : List (Int × Int)) (s : RS) (E P B : Value) (cE : List Value) (k m b f g h : Int) (fs : List (Int × Int × Int)) (am : List (Int × Int)) (vf va : Value) (w : World) (hR : Rd w r L ws s E P B cE)
    (hx : ExpAt w (own r E P B) ⟨k, m, b, f, g, h, fs, am⟩ vf va) (hn : s.exps.length ≤ 100000) :
    Calls Tryd.prog 44 #[.pointer (some ⟨r, 0, none⟩), .agg #[.int .i64 k, .int .i64 m, .int .i64 b, .int .i64 f, .int .i64 g, .int .i64 h, vf, va]] w fun e w' => e = .returned (.int .i64 (rExp ⟨k, m, b, f, g, h, fs, am⟩ s).2) ∧ Nx (fun b => vf.ownBlock = some b ∨ va.ownBlock = some b) r L ws w E P B cE w' (rExp ⟨k, m, b, f, g, h, fs, am⟩ s).1 :=
  addExp_any r L ws s E P B cE ⟨k, m, b, f, g, h, fs, am⟩ vf va w hR hx hn

theorem ExpAt.plain (w : World) (O : Nat → Prop) (k m b f g h : Int) : ExpAt w O ⟨k, m, b, f, g, h, [], []⟩ (.slice none 0 0) (.slice none 0 0) :=
  ⟨World.ownsRow_nil _ _ _ _, World.ownsRow_nil _ _ _ _, (fun b h => by cases h), (fun b h => by cases h)⟩

/-- An expression without lists of its own. -/
theorem addExp_plain (r : Nat) (L : Value) (ws : List (Int × Int)) (s : RS) (E P B : Value) (cE : List Value) (k m b f g h : Int) (w : World) (hR : Rd w r L ws s E P B cE) (hn : s.exps.length ≤ 100000) :
    Calls Tryd.prog 44 #[.pointer (some ⟨r, 0, none⟩), .agg #[.int .i64 k, .int .i64 m, .int .i64 b, .int .i64 f, .int .i64 g, .int .i64 h, .slice none 0 0, .slice none 0 0]] w fun e w' => e = .returned (.int .i64 (rExp ⟨k, m, b, f, g, h, [], []⟩ s).2) ∧ Nx NoX r L ws w E P B cE w' (rExp ⟨k, m, b, f, g, h, [], []⟩ s).1 :=
  (addExp_at r L ws s E P B cE k m b f g h [] [] _ _ w hR (ExpAt.plain _ _ _ _ _ _ _ _) hn).mono fun _ _ hh => ⟨hh.1, hh.2.mono (fun b h => by rcases h with h | h <;> cases h)⟩

end Go.Proofs.YtnbhnjokpcdnnaaDoor

namespace Go.Proofs.YtnbhnjokpcdnnaaDoor
open Go.RowKit
attribute [local go_sem] fieldWord0 fieldWord1

set_option maxHeartbeats 800000 in
set_option maxRecDepth 100000 in
theorem addPat_at (r : Nat) (L : Value) (ws : List (Int × Int)) (s : RS) (E P B : Value) (cE : List Value) (k m b f g : Int) (w : World) (hR : Rd w r L ws s E P B cE) (hn : s.pats.length ≤ 100000) :
    Calls Tryd.prog 56 #[.pointer (some ⟨r, 0, none⟩), .agg #[.int .i64 k, .int .i64 m, .int .i64 b, .int .i64 f, .int .i64 g]] w fun e w' => e = .returned (.int .i64 (rPat ⟨k, m, b, f, g⟩ s).2) ∧ Nx NoX r L ws w E P B cE w' (rPat ⟨k, m, b, f, g⟩ s).1 := by
  obtain ⟨hr, -, -, -, -, c4, -, hfz⟩ := hR.cells
  have f4 := hfz 4
  have hE := hR.p
  have HR : Hid (Rd w r L ws s E P B cE) := hR
  have HEr : Hid (∀ b, P.ownBlock = some b → r + 1 ≤ b) := fun b hb => (hE.lt b hb).1
  obtain ⟨ea, ec, rfl⟩ := ownsRow_len hE
  clear hR hfz
  go_enter Tryd.func56, Tryd.ntmps56
  go_wp2
  go_region_law (refine step_app slPat rfl (.tmp 10) (.tmp 12) rfl (r + 1) s.pats.length (patCells s.pats) _ rfl (((hE.alloc _).drew).alloc _) ⟨w.heap.size + 1, 0, none⟩ 1 1 [.int .i64 k, .int .i64 m, .int .i64 b, .int .i64 f, .int .i64 g] rfl rfl (by intro j u hj; match j, hj with | 0, hj | 1, hj | 2, hj | 3, hj | 4, hj => simp at hj; subst hj; simp [Addr.add]) (by intro u hu; simp at hu; rcases hu with rfl | rfl | rfl | rfl | rfl <;> rfl) (by decide) (by unfold maxLen; omega) (by omega) (by simp; omega) ?_; rintro v' w1 hown hgrow hv ⟨g', cap, rfl⟩; obtain ⟨k3, g3⟩ := grown_at hr (by exact ((((Fr.refl _ w).alloc _).drew).alloc _)) hgrow HEr.out 4; rw [c4] at k3; rw [f4] at g3; have HN : Hid (Nx NoX r L ws w E (.slice ea s.pats.length ec) B cE (w1.setCell ⟨r, 4, none⟩ (.slice (some ⟨g', 0, none⟩) (s.pats.length + 1) cap)) (rPat ⟨k, m, b, f, g⟩ s).1) := HR.out.grewP (by exact ((((Fr.refl _ w).alloc _).drew).alloc _)) hgrow hown hv; clear hown hgrow hv)
  all_goals
    go_wp2
    go_ret
    exact ⟨ret_int (by simp [rPat]), HN.out⟩

set_option maxHeartbeats 800000 in
set_option maxRecDepth 100000 in
theorem binder_any (r : Nat) (L : Value) (ws : List (Int × Int)) (s : RS) (E P B : Value) (cE : List Value) (w : World) (hR : Rd w r L ws s E P B cE) (hn : s.bnds.length ≤ 100000) :
    Calls Tryd.prog 43 #[.pointer (some ⟨r, 0, none⟩)] w fun e w' => e = .returned (.int .i64 (rBinder ws s).2) ∧ Nx NoX r L ws w E P B cE w' (rBinder ws s).1 := by
  have HR : Hid (Rd w r L ws s E P B cE) := hR
  have hl : (rWant ws 2 s).bnds = s.bnds := by simp [rWant, rTake, rFail, rStep]; split <;> (try split) <;> (try split) <;> rfl
  have hn' : (rWant ws 2 s).bnds.length ≤ 100000 := by rw [hl]; exact hn
  clear hR hl
  go_enter Tryd.func43, Tryd.ntmps43
  go_wp2_with fail
  refine (peek_any r L ws s E P B cE _ HR.out).mono ?_
  rintro e w1 ⟨rfl, hF⟩
  have HR1 : Hid (Rd w1 r L ws s E P B cE) := HR.out.fr hF
  go_wp2_with fail
  refine (want_any r L ws s E P B cE 2 _ (HR1.out.fr (by repeat (first | with_reducible exact Fr.refl _ _ | (with_reducible refine Fr.drew ?_) | (with_reducible refine Fr.drewN ?_ _) | (with_reducible refine Fr.alloc ?_ _) | ((with_reducible refine Fr.setCell ?_ ?_ _); rotate_left; first | exact .inl rfl | exact .inr (Nat.le_refl _) | exact .inl (Nat.le_refl _) | (focus (left; simp; done)) | (focus (left; simp; omega)) | (focus (left; omega)) | (focus (right; simp; done)) | (focus (right; simp; omega)) | (focus (right; omega))) | exact Fr.refl _ _)))).mono ?_
  rintro e w2 ⟨rfl, E1, P1, B1, c1, hR1, hF1, hO1, hT1⟩
  have hw2 : w2.cell? ⟨w1.heap.size, 1, none⟩ = some (.int .i64 (rPeek ws s).2) := by
    rw [World.cell?_of_block (hF1.block w1.heap.size (by simp) (fun h => by have := own_ge HR1.out _ h; omega))]
    simp
  have HF2 : Hid (Fr (own r E P B) w w2) := (hF.mono (fun _ h => h.elim)).trans (Fr.trans (O := own r E P B) ((Fr.refl _ w1).alloc _) hF1 (fun _ h => .inl h)) (fun _ h => .inl h)
  have HO1 : Hid (∀ b, own r E1 P1 B1 b → own r E P B b ∨ w.heap.size ≤ b) := fun b hb => by
    rcases hO1 b hb with h1 | h1
    · exact .inl h1
    · have := hF.size; simp at h1; right; omega
  have HT1 : Hid (∀ b, Refs c1 b → Refs cE b ∨ w.heap.size ≤ b ∨ NoX b) := fun b hb => by
    rcases hT1 b hb with h1 | h1 | h1
    · exact .inl h1
    · have := hF.size; simp at h1; right; left; omega
    · exact h1.elim
  have HR2 : Hid (Rd w2 r L ws (rWant ws 2 s) E1 P1 B1 c1) := hR1
  have Hres : Hid (rBinder ws s = ({ rWant ws 2 s with bnds := (rWant ws 2 s).bnds ++ [(rPeek ws s).2] }, (((rWant ws 2 s).bnds.length : Nat) : Int))) := by rfl
  obtain ⟨hr, -, -, -, -, -, c6, hfz⟩ := hR1.cells
  have f6 := hfz 6
  have hE := hR1.b
  have HEr : Hid (∀ b, B1.ownBlock = some b → r + 1 ≤ b) := fun b hb => (hE.lt b hb).1
  generalize rWant ws 2 s = s2 at *
  generalize (rPeek ws s).2 = nm at *
  obtain ⟨ea, ec, rfl⟩ := ownsRow_len hE
  clear hR1 hF1 hO1 hT1 hfz hF HR HR1
  go_wp2
  go_region_law (refine step_app slInt rfl (.tmp 13) (.tmp 16) rfl (r + 1) s2.bnds.length (s2.bnds.map (.int .i64)) _ rfl ((hE.drew).alloc _) ⟨w2.heap.size, 0, none⟩ 1 1 [.int .i64 nm] rfl rfl (by intro j u hj; match j, hj with | 0, hj => simp at hj; subst hj; simp [Addr.add]) (by intro u hu; simp at hu; rcases hu with rfl; rfl) (by decide) (by unfold maxLen; omega) (by omega) (by simp; omega) ?_; rintro v' w3 hown hgrow hv ⟨g', cap, rfl⟩; obtain ⟨k3, g3⟩ := grown_at hr (by exact (((Fr.refl _ w2).drew).alloc _)) hgrow HEr.out 6; rw [c6] at k3; rw [f6] at g3; have HN : Hid (Nx NoX r L ws w2 E1 P1 (.slice ea s2.bnds.length ec) c1 (w3.setCell ⟨r, 6, none⟩ (.slice (some ⟨g', 0, none⟩) (s2.bnds.length + 1) cap)) { s2 with bnds := s2.bnds ++ [nm] }) := HR2.out.grewB (by exact (((Fr.refl _ w2).drew).alloc _)) hgrow hown hv; clear hown hgrow hv)
  all_goals
    go_wp2
    go_ret
    rw [Hres.out]
    exact ⟨ret_int (by simp), Nx.trans HF2.out HO1.out HT1.out HN.out⟩

end Go.Proofs.YtnbhnjokpcdnnaaDoor

namespace Go.Proofs.YtnbhnjokpcdnnaaDoor
open Go.RowKit

/-- How the reader stands in w, and what has become of the world since w0. -/
def Cx (r : Nat) (L : Value) (ws : List (Int × Int)) (w0 : World) (E0 P0 B0 : Value) (c0 : List Value) (w : World) (E P B : Value) (cE : List Value) (s : RS) : Prop :=
  Rd w r L ws s E P B cE ∧ Fr (own r E0 P0 B0) w0 w ∧ (∀ b, own r E P B b → own r E0 P0 B0 b ∨ w0.heap.size ≤ b) ∧ ∀ b, Refs cE b → Refs c0 b ∨ w0.heap.size ≤ b ∨ NoX b

/-- .. behind a step from w, E, P, B. -/
def Cxs (r : Nat) (L : Value) (ws : List (Int × Int)) (w0 : World) (E0 P0 B0 : Value) (c0 : List Value) (w : World) (E P B : Value) (cE : List Value) (w' : World) (s' : RS) : Prop :=
  ∃ E' P' B' cE', Cx r L ws w0 E0 P0 B0 c0 w' E' P' B' cE' s' ∧ (∀ b, own r E' P' B' b → own r E P B b ∨ w.heap.size ≤ b) ∧ ∀ b, Refs cE' b → Refs cE b ∨ w.heap.size ≤ b ∨ NoX b

section
variable {r : Nat} {L : Value} {ws : List (Int × Int)} {w0 : World} {E0 P0 B0 : Value} {c0 : List Value} {w w' : World} {E P B : Value} {cE : List Value} {s s' : RS}

theorem Cx.start (h : Rd w r L ws s E P B cE) : Cx r L ws w E P B cE w E P B cE s := ⟨h, Fr.refl _ _, fun _ h => .inl h, fun _ h => .inl h⟩

theorem Cx.nx (h : Cx r L ws w0 E0 P0 B0 c0 w E P B cE s) : Nx NoX r L ws w0 E0 P0 B0 c0 w s := ⟨E, P, B, cE, h⟩

theorem Cx.goX (h : Cx r L ws w0 E0 P0 B0 c0 w E P B cE s) {X : Nat → Prop} (hX : ∀ b, X b → w0.heap.size ≤ b) (hN : Nx X r L ws w E P B cE w' s') :
    ∃ E' P' B' cE', Cx r L ws w0 E0 P0 B0 c0 w' E' P' B' cE' s' ∧ (∀ b, own r E' P' B' b → own r E P B b ∨ w.heap.size ≤ b) ∧ ∀ b, Refs cE' b → Refs cE b ∨ w.heap.size ≤ b ∨ X b := by
  obtain ⟨E1, P1, B1, c1, hR, hF, hO, hT⟩ := hN
  refine ⟨E1, P1, B1, c1, ⟨hR, h.2.1.trans hF h.2.2.1, fun b hb => ?_, fun b hb => ?_⟩, hO, hT⟩
  · rcases hO b hb with h1 | h1
    · exact h.2.2.1 b h1
    · have := h.2.1.size; right; omega
  · rcases hT b hb with h1 | h1 | h1
    · exact h.2.2.2 b h1
    · have := h.2.1.size; right; left; omega
    · exact .inr (.inl (hX b h1))

theorem Cx.go (h : Cx r L ws w0 E0 P0 B0 c0 w E P B cE s) (hN : Nx NoX r L ws w E P B cE w' s') : Cxs r L ws w0 E0 P0 B0 c0 w E P B cE w' s' := h.goX (fun _ h => h.elim) hN

theorem Cx.fr (h : Cx r L ws w0 E0 P0 B0 c0 w E P B cE s) (hF : Fr (fun _ => False) w w') : Cx r L ws w0 E0 P0 B0 c0 w' E P B cE s :=
  ⟨h.1.fr hF, h.2.1.trans hF (fun _ h => h.elim), h.2.2⟩

theorem Cx.peek (h : Cx r L ws w0 E0 P0 B0 c0 w E P B cE s) :
    Calls Tryd.prog 26 #[.pointer (some ⟨r, 0, none⟩)] w fun e w' => e = .returned (.agg #[.int .i64 (rPeek ws s).1, .int .i64 (rPeek ws s).2]) ∧ Fr (fun _ => False) w w' ∧ Cx r L ws w0 E0 P0 B0 c0 w' E P B cE s :=
  (peek_any r L ws s E P B cE w h.1).mono fun _ _ hh => ⟨hh.1, hh.2, h.fr hh.2⟩

theorem Cx.step (h : Cx r L ws w0 E0 P0 B0 c0 w E P B cE s) :
    Calls Tryd.prog 48 #[.pointer (some ⟨r, 0, none⟩)] w fun e w' => e = .returned (.tuple #[]) ∧ Fr (own r E P B) w w' ∧ Cxs r L ws w0 E0 P0 B0 c0 w E P B cE w' (rStep ws s) :=
  (step_any r L ws s E P B cE w h.1).mono fun _ _ hh => ⟨hh.1, (let ⟨_, _, _, _, _, hF, _⟩ := hh.2; hF), h.go hh.2⟩

theorem Cx.fail (h : Cx r L ws w0 E0 P0 B0 c0 w E P B cE s) :
    Calls Tryd.prog 51 #[.pointer (some ⟨r, 0, none⟩)] w fun e w' => e = .returned (.tuple #[]) ∧ Fr (own r E P B) w w' ∧ Cxs r L ws w0 E0 P0 B0 c0 w E P B cE w' (rFail ws s) :=
  (fail_any r L ws s E P B cE w h.1).mono fun _ _ hh => ⟨hh.1, (let ⟨_, _, _, _, _, hF, _⟩ := hh.2; hF), h.go hh.2⟩

theorem Cx.take (h : Cx r L ws w0 E0 P0 B0 c0 w E P B cE s) (k : Int) :
    Calls Tryd.prog 41 #[.pointer (some ⟨r, 0, none⟩), .int .i64 k] w fun e w' => e = .returned (.bool (rTake ws k s).2) ∧ Fr (own r E P B) w w' ∧ Cxs r L ws w0 E0 P0 B0 c0 w E P B cE w' (rTake ws k s).1 :=
  (take_any r L ws s E P B cE k w h.1).mono fun _ _ hh => ⟨hh.1, (let ⟨_, _, _, _, _, hF, _⟩ := hh.2; hF), h.go hh.2⟩

theorem Cx.want (h : Cx r L ws w0 E0 P0 B0 c0 w E P B cE s) (k : Int) :
    Calls Tryd.prog 40 #[.pointer (some ⟨r, 0, none⟩), .int .i64 k] w fun e w' => e = .returned (.tuple #[]) ∧ Fr (own r E P B) w w' ∧ Cxs r L ws w0 E0 P0 B0 c0 w E P B cE w' (rWant ws k s) :=
  (want_any r L ws s E P B cE k w h.1).mono fun _ _ hh => ⟨hh.1, (let ⟨_, _, _, _, _, hF, _⟩ := hh.2; hF), h.go hh.2⟩

theorem Cx.binder (h : Cx r L ws w0 E0 P0 B0 c0 w E P B cE s) {x : RS × Int} (hx : bnd ws s = some x) :
    Calls Tryd.prog 43 #[.pointer (some ⟨r, 0, none⟩)] w fun e w' => e = .returned (.int .i64 x.2) ∧ Fr (own r E P B) w w' ∧ Cxs r L ws w0 E0 P0 B0 c0 w E P B cE w' x.1 := by
  unfold bnd at hx
  split at hx
  · rename_i hn
    simp only [Option.some.injEq] at hx
    subst hx
    exact (binder_any r L ws s E P B cE w h.1 hn).mono fun _ _ hh => ⟨hh.1, (let ⟨_, _, _, _, _, hF, _⟩ := hh.2; hF), h.go hh.2⟩
  · cases hx

theorem Cx.add (h : Cx r L ws w0 E0 P0 B0 c0 w E P B cE s) {k m b f g i : Int} {x : RS × Int} (hx : add ⟨k, m, b, f, g, i, [], []⟩ s = some x) :
    Calls Tryd.prog 44 #[.pointer (some ⟨r, 0, none⟩), .agg #[.int .i64 k, .int .i64 m, .int .i64 b, .int .i64 f, .int .i64 g, .int .i64 i, .slice none 0 0, .slice none 0 0]] w
      fun e w' => e = .returned (.int .i64 x.2) ∧ Fr (own r E P B) w w' ∧ Cxs r L ws w0 E0 P0 B0 c0 w E P B cE w' x.1 := by
  unfold Go.Proofs.YtnbhnjokpcdnnaaDoor.add at hx
  split at hx
  · rename_i hn
    simp only [Option.some.injEq] at hx
    subst hx
    exact (addExp_plain r L ws s E P B cE k m b f g i w h.1 hn).mono fun _ _ hh => ⟨hh.1, (let ⟨_, _, _, _, _, hF, _⟩ := hh.2; hF), h.go hh.2⟩
  · cases hx

theorem Cx.addL (h : Cx r L ws w0 E0 P0 B0 c0 w E P B cE s) {k m b f g i : Int} {fs : List (Int × Int × Int)} {am : List (Int × Int)} {vf va : Value} {x : RS × Int} (hx : Go.Proofs.YtnbhnjokpcdnnaaDoor.add ⟨k, m, b, f, g, i, fs, am⟩ s = some x)
    (hl : ExpAt w (own r E P B) ⟨k, m, b, f, g, i, fs, am⟩ vf va) (hX : ∀ b, vf.ownBlock = some b ∨ va.ownBlock = some b → w0.heap.size ≤ b) :
    Calls Tryd.prog 44 #[.pointer (some ⟨r, 0, none⟩), .agg #[.int .i64 k, .int .i64 m, .int .i64 b, .int .i64 f, .int .i64 g, .int .i64 i, vf, va]] w
      fun e w' => e = .returned (.int .i64 x.2) ∧ ∃ E' P' B' cE', Cx r L ws w0 E0 P0 B0 c0 w' E' P' B' cE' x.1 := by
  unfold Go.Proofs.YtnbhnjokpcdnnaaDoor.add at hx
  split at hx
  · rename_i hn
    simp only [Option.some.injEq] at hx
    subst hx
    exact (addExp_at r L ws s E P B cE k m b f g i fs am vf va w h.1 hl hn).mono fun _ _ hh => ⟨hh.1, (let ⟨E', P', B', c', hC, _⟩ := h.goX hX hh.2; ⟨E', P', B', c', hC⟩)⟩
  · cases hx

theorem Cx.addP (h : Cx r L ws w0 E0 P0 B0 c0 w E P B cE s) {k m b f g : Int} {x : RS × Int} (hx : Go.Proofs.YtnbhnjokpcdnnaaDoor.addP ⟨k, m, b, f, g⟩ s = some x) :
    Calls Tryd.prog 56 #[.pointer (some ⟨r, 0, none⟩), .agg #[.int .i64 k, .int .i64 m, .int .i64 b, .int .i64 f, .int .i64 g]] w
      fun e w' => e = .returned (.int .i64 x.2) ∧ Fr (own r E P B) w w' ∧ Cxs r L ws w0 E0 P0 B0 c0 w E P B cE w' x.1 := by
  unfold Go.Proofs.YtnbhnjokpcdnnaaDoor.addP at hx
  split at hx
  · rename_i hn
    simp only [Option.some.injEq] at hx
    subst hx
    exact (addPat_at r L ws s E P B cE k m b f g w h.1 hn).mono fun _ _ hh => ⟨hh.1, (let ⟨_, _, _, _, _, hF, _⟩ := hh.2; hF), h.go hh.2⟩
  · cases hx

/-- The contract of a function of the reader's that answers a number. -/
def Ct (ws : List (Int × Int)) (f : FuncId) (s : RS) (x : RS × Int) : Prop :=
  ∀ (r : Nat) (L E P B : Value) (cE : List Value) (w : World), Rd w r L ws s E P B cE → Calls Tryd.prog f #[.pointer (some ⟨r, 0, none⟩)] w fun e w' => e = .returned (.int .i64 x.2) ∧ Nx NoX r L ws w E P B cE w' x.1

theorem Cx.call (h : Cx r L ws w0 E0 P0 B0 c0 w E P B cE s) {f : FuncId} {x : RS × Int} (hc : Ct ws f s x) :
    Calls Tryd.prog f #[.pointer (some ⟨r, 0, none⟩)] w fun e w' => e = .returned (.int .i64 x.2) ∧ Fr (own r E P B) w w' ∧ Cxs r L ws w0 E0 P0 B0 c0 w E P B cE w' x.1 :=
  (hc r L E P B cE w h.1).mono fun _ _ hh => ⟨hh.1, (let ⟨_, _, _, _, _, hF, _⟩ := hh.2; hF), h.go hh.2⟩

/-- Which function a tag names. -/
def fnOf : Nat → FuncId
  | 0 => 19 | 1 => 27 | 2 => 28 | 3 => 29 | 4 => 30 | 5 => 31 | 6 => 32 | 7 => 42 | 8 => 46 | 9 => 54
  | 10 => 57 | 11 => 61 | 12 => 63 | 13 => 66 | 14 => 65 | 15 => 67 | 16 => 53 | 17 => 55 | _ => 59

def Ih (ws : List (Int × Int)) (R : Nat → RS → Option (RS × Int)) : Prop := ∀ tag s x, R tag s = some x → Ct ws (fnOf tag) s x
end

end Go.Proofs.YtnbhnjokpcdnnaaDoor
