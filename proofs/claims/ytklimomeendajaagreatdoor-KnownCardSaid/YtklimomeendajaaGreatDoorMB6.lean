import Derived.Test.YtklimomeendajaaGreatDoorMB5
import Derived.Test.YtklimomeendajaaGreatDoorMA6
import Derived.Test.YtklimomeendajaaGreatDoorMA8
set_option linter.unusedVariables false
set_option linter.unusedSimpArgs false
/- The finder of types as it lies. -/
namespace Go.Proofs.YtklimomeendajaaGreatDoor
open Go.RowKit

/-- What stays: the tree, what the names mean; blocks below b0 are not the finder's. -/
structure TC where
  b0 : Nat
  t : RS
  root : Int
  E : Value
  P : Value
  B : Value
  cE : List Value
  MV : Value
  ms : List Int

/-- What changes: the store's rows, the rows of names and of fixed types. -/
structure TD where
  G : Value
  bk : List Nat
  NV : Value
  FV : Value

def tyA (K : TC) (NV FV : Value) (wr : Bool) : Array Value := #[K.E, K.P, .int .i64 K.root, K.B, K.MV, .bool false, .bool false, .bool false, NV, FV, .bool wr]

def tow (q : Nat) (D : TD) (b : Nat) : Prop := sown q D.G D.bk b ∨ D.NV.ownBlock = some b ∨ D.FV.ownBlock = some b

structure Ty (K : TC) (q : Nat) (w : World) (f : FX) (fx : List Int) (D : TD) : Prop where
  so : So w q 5 154 (tyA K D.NV D.FV f.wr) f.s D.G D.bk
  tr : Tr w K.t K.E K.P K.B K.cE
  old : ∀ b, (K.E.ownBlock = some b ∨ K.P.ownBlock = some b ∨ K.B.ownBlock = some b ∨ Refs K.cE b) → b < K.b0
  m : w.ownsRow 0 3 1 K.MV K.ms.length (K.ms.map (.int .i64))
  mo : ∀ b, K.MV.ownBlock = some b → b < K.b0
  n : w.ownsRow K.b0 155 1 D.NV f.nms.length (tyC f.nms)
  x : w.ownsRow K.b0 155 1 D.FV fx.length (tyC fx)
  new : ∀ b, sown q D.G D.bk b → K.b0 ≤ b
  nx : ∀ b, D.NV.ownBlock = some b → D.FV.ownBlock ≠ some b
  ns : ∀ b, D.NV.ownBlock = some b → ¬ sown q D.G D.bk b
  xs : ∀ b, D.FV.ownBlock = some b → ¬ sown q D.G D.bk b
  ne : K.t.exps.length ≤ 200000
  nb : K.t.bnds.length ≤ 200000

/-- Behind a step. -/
def Tn (K : TC) (q : Nat) (w : World) (D : TD) (w' : World) (f' : FX) (fx' : List Int) : Prop :=
  ∃ D', Ty K q w' f' fx' D' ∧ Fr (tow q D) w w' ∧ ∀ b, tow q D' b → tow q D b ∨ w.heap.size ≤ b

section
variable {K : TC} {q : Nat} {w w' w1 w2 w0 : World} {f f' : FX} {fx fx' : List Int} {D D' D0 : TD} {s' : SX}

theorem Ty.lt (h : Ty K q w f fx D) : q < w.heap.size := h.so.flt

theorem Ty.own_lt (h : Ty K q w f fx D) : ∀ b, tow q D b → K.b0 ≤ b ∧ b < w.heap.size := by
  rintro b (hb | hb | hb)
  · exact ⟨h.new b hb, h.so.own_lt b hb⟩
  · exact h.n.lt b hb
  · exact h.x.lt b hb

theorem Ty.tree (h : Ty K q w f fx D) {X : Nat → Prop} (hF : Fr X w w') (hX : ∀ b, X b → K.b0 ≤ b) : Tr w' K.t K.E K.P K.B K.cE ∧ w'.ownsRow 0 3 1 K.MV K.ms.length (K.ms.map (.int .i64)) :=
  ⟨h.tr.keep fun b hb => hF.block b (h.tr.lt b hb) (fun hx => by have := hX b hx; have := h.old b hb; omega), ownsRow_block h.m fun b hb => hF.block b (h.m.lt b hb).2 (fun hx => by have := hX b hx; have := h.mo b hb; omega)⟩

/-- Blocks that are not the finder's are written. -/
theorem Ty.frX {X : Nat → Prop} (h : Ty K q w f fx D) (hF : Fr X w w') (hX : ∀ b, X b → K.b0 ≤ b ∧ ¬ tow q D b) : Ty K q w' f fx D := by
  obtain ⟨h1, h2⟩ := h.tree hF fun b hb => (hX b hb).1
  exact ⟨h.so.frX hF fun b hb hs => (hX b hb).2 (.inl hs), h1, h.old, h2, h.mo, rowKeep hF h.n fun b hb hx => (hX b hx).2 (.inr (.inl hb)), rowKeep hF h.x fun b hb hx => (hX b hx).2 (.inr (.inr hb)), h.new, h.nx, h.ns, h.xs, h.ne, h.nb⟩

theorem Ty.fr (h : Ty K q w f fx D) (hF : Fr (fun _ => False) w w') : Ty K q w' f fx D := h.frX hF fun _ h => h.elim

theorem Tn.refl (h : Ty K q w f fx D) : Tn K q w D w f fx := ⟨D, h, Fr.refl _ _, fun _ hb => .inl hb⟩

theorem Tn.pre (h : Tn K q w1 D w2 f' fx') (hF : Fr (tow q D) w w1) : Tn K q w D w2 f' fx' := by
  obtain ⟨D2, h1, h2, h3⟩ := h
  refine ⟨D2, h1, hF.trans h2 (fun _ hb => .inl hb), fun b hb => ?_⟩
  rcases h3 b hb with h4 | h4
  · exact .inl h4
  · have := hF.size; right; omega

/-- How the finder stands, and what has become of the world since w0. -/
def Tx (K : TC) (q : Nat) (w0 : World) (D0 : TD) (w : World) (D : TD) (f : FX) (fx : List Int) : Prop :=
  Ty K q w f fx D ∧ Fr (tow q D0) w0 w ∧ ∀ b, tow q D b → tow q D0 b ∨ w0.heap.size ≤ b

theorem Tx.start (h : Ty K q w f fx D) : Tx K q w D w D f fx := ⟨h, Fr.refl _ _, fun _ h => .inl h⟩
theorem Tx.n (h : Tx K q w0 D0 w D f fx) : Tn K q w0 D0 w f fx := ⟨D, h⟩
theorem Tx.fr (h : Tx K q w0 D0 w D f fx) (hF : Fr (fun _ => False) w w') : Tx K q w0 D0 w' D f fx := ⟨h.1.fr hF, h.2.1.trans hF (fun _ h => h.elim), h.2.2⟩

theorem Tx.go (h : Tx K q w0 D0 w D f fx) (hN : Tn K q w D w' f' fx') : ∃ D', Tx K q w0 D0 w' D' f' fx' ∧ Fr (tow q D) w w' ∧ ∀ b, tow q D' b → tow q D b ∨ w.heap.size ≤ b := by
  obtain ⟨D2, h1, h2, h3⟩ := hN
  refine ⟨D2, ⟨h1, h.2.1.trans h2 h.2.2, fun b hb => ?_⟩, h2, h3⟩
  rcases h3 b hb with h4 | h4
  · exact h.2.2 b h4
  · have := h.2.1.size; right; omega

/-- A local block: none of the finder's. -/
theorem Ty.loc (h : Ty K q w f fx D) {l : Nat} (hl : w.heap.size ≤ l) : ¬ tow q D l := fun h' => by have := (h.own_lt l h').2; omega
theorem loc_next {l : Nat} (h : ¬ tow q D l) (hl : l < w.heap.size) (hO : ∀ b, tow q D' b → tow q D b ∨ w.heap.size ≤ b) : ¬ tow q D' l := fun h' => by
  rcases hO l h' with h1 | h1
  · exact h h1
  · omega
theorem loc_blk {l : Nat} {ob : Obj} (h : ¬ tow q D l) (hF : Fr (tow q D) w w') (hb : w.heap[l]? = some ob) : w'.heap[l]? = some ob := (hF.block l (blk_lt hb) h).trans hb

/-- A local block stays as long as the finder's steps are made. -/
theorem Tx.blk (h : Tx K q w0 D0 w D f fx) {l : Nat} {ob : Obj} (hn : ¬ tow q D0 l) (hb : w0.heap[l]? = some ob) : w.heap[l]? = some ob := (h.2.1.block l (blk_lt hb) hn).trans hb

/-- The finder's cells. -/
theorem Ty.cells (h : Ty K q w f fx D) : (w.cell? ⟨q, 0, none⟩ = some K.E ∧ w.cell? ⟨q, 1, none⟩ = some K.P ∧ w.cell? ⟨q, 3, none⟩ = some K.B ∧ w.cell? ⟨q, 4, none⟩ = some K.MV ∧ w.cell? ⟨q, 8, none⟩ = some D.NV ∧ w.cell? ⟨q, 9, none⟩ = some D.FV ∧ w.cell? ⟨q, 10, none⟩ = some (.bool f.wr)) ∧ ∀ i, w.frozen? ⟨q, i, none⟩ = false := by
  have hb := h.so.blk
  unfold ins3 tyA at hb
  refine ⟨⟨?_, ?_, ?_, ?_, ?_, ?_, ?_⟩, fun i => ?_⟩ <;> simp [World.cell?, World.frozen?, hb]

/-- The store has changed, and may have grown. -/
theorem Ty.sn (h : Ty K q w f fx D) (hN : Sn q 5 154 (tyA K D.NV D.FV f.wr) w D.G D.bk w' s') : Tn K q w D w' { f with s := s' } fx := by
  obtain ⟨G2, b2, h1, h2, h3⟩ := hN
  have hnew : ∀ b, sown q G2 (D.bk ++ b2) b → K.b0 ≤ b := fun b hb => by
    rcases h3 b hb with h4 | h4
    · exact h.new b h4
    · have := h.new q (.inl rfl); have := h.lt; omega
  obtain ⟨t1, t2⟩ := h.tree h2 h.new
  refine ⟨⟨G2, D.bk ++ b2, D.NV, D.FV⟩, ⟨h1, t1, h.old, t2, h.mo, rowKeep h2 h.n h.ns, rowKeep h2 h.x h.xs, hnew, h.nx, fun b hb hs => ?_, fun b hb hs => ?_, h.ne, h.nb⟩, h2.mono (fun b hb => .inl (.inl hb)), ?_⟩
  · rcases h3 b hs with h4 | h4
    · exact h.ns b hb h4
    · have := (h.n.lt b hb).2; omega
  · rcases h3 b hs with h4 | h4
    · exact h.xs b hb h4
    · have := (h.x.lt b hb).2; omega
  · rintro b (hb | hb | hb)
    · rcases h3 b hb with h4 | h4
      · exact .inl (.inl h4)
      · exact .inr h4
    · exact .inl (.inr (.inl hb))
    · exact .inl (.inr (.inr hb))

/-- The store has changed, in its place. -/
theorem Ty.st (h : Ty K q w f fx D) (hS : So w' q 5 154 (tyA K D.NV D.FV f.wr) s' D.G D.bk) (hF : Fr (own2 q D.bk) w w') : Ty K q w' { f with s := s' } fx D := by
  have h2 : Fr (sown q D.G D.bk) w w' := hF.mono fun b hb => .inl (own2_sown hb)
  obtain ⟨t1, t2⟩ := h.tree h2 h.new
  exact ⟨hS, t1, h.old, t2, h.mo, rowKeep h2 h.n h.ns, rowKeep h2 h.x h.xs, h.new, h.nx, h.ns, h.xs, h.ne, h.nb⟩

/-- Another cell of the store's block is set. -/
theorem So.oth {w : World} {f o i : Nat} {ty : TypeId} {c : Array Value} {s : SX} {G : Value} {bk : List Nat} (h : So w f o ty c s G bk) (hi : i ≠ o ∧ i ≠ o + 1 ∧ i ≠ o + 2) (v : Value) : So (w.setCell ⟨f, i, none⟩ v) f o ty (c.setIfInBounds i v) s G bk := by
  have hother : ∀ k, k ≠ f → (w.setCell ⟨f, i, none⟩ v).heap[k]? = w.heap[k]? := fun k hk => Below.heap_setCell _ _ _ _ hk
  refine ⟨blk_set h.blk ?_, by simpa using h.co, ownsRow_block h.row fun b h' => hother b (by rintro rfl; exact h.gf h'), h.gf, h.n0, h.n1, h.nd, fun b h' => ?_, fun u b h' j y hy => ?_, h.sz, h.w0, h.w1⟩
  · obtain ⟨h1, h2, h3⟩ := hi
    apply Array.ext_getElem?
    intro j
    simp only [ins3, Array.getElem?_setIfInBounds, Array.size_setIfInBounds]
    repeat' split
    all_goals first | rfl | omega
  · obtain ⟨g1, g2, cur, g3, g4⟩ := h.bf b h'
    exact ⟨g1, g2, cur, (hother b g1).trans g3, g4⟩
  · have := h.at_ u b h' j y hy
    simp only [World.cell?, hother b (h.bf b (List.mem_of_getElem? h')).1] at this ⊢
    exact this

/-- The mark is set. -/
theorem Ty.mark (h : Ty K q w f fx D) : Ty K q (w.setCell ⟨q, 10, none⟩ (.bool true)) { f with wr := true } fx D := by
  have hF : Fr (fun b => b = q) w (w.setCell ⟨q, 10, none⟩ (.bool true)) := (by repeat (first | with_reducible exact Fr.refl _ _ | (with_reducible refine Fr.drew ?_) | (with_reducible refine Fr.drewN ?_ _) | (with_reducible refine Fr.alloc ?_ _) | ((with_reducible refine Fr.setCell ?_ ?_ _); rotate_left; first | exact .inl rfl | exact .inr (Nat.le_refl _) | exact .inl (Nat.le_refl _) | (focus (left; simp; done)) | (focus (left; simp; omega)) | (focus (left; omega)) | (focus (right; simp; done)) | (focus (right; simp; omega)) | (focus (right; omega))) | exact Fr.refl _ _))
  obtain ⟨t1, t2⟩ := h.tree hF fun b hb => by subst hb; exact h.new b (.inl rfl)
  have hS := h.so.oth (i := 10) (by decide) (.bool true)
  exact ⟨by simpa [tyA] using hS, t1, h.old, t2, h.mo, rowKeep hF h.n fun b hb hq => h.ns b hb (.inl hq), rowKeep hF h.x fun b hb hq => h.xs b hb (.inl hq), h.new, h.nx, h.ns, h.xs, h.ne, h.nb⟩

/-- A name gets its type. -/
theorem Ty.name (h : Ty K q w f fx D) {n : Nat} (hn : n < f.nms.length) (ty : Int) : ∃ g cap, D.NV = .slice (some ⟨g, 0, none⟩) f.nms.length cap ∧ g < w.heap.size ∧ w.cell? ⟨g, n, none⟩ = some (.int .i32 (f.nms.getD n 0)) ∧ w.frozen? ⟨g, n, none⟩ = false ∧ tow q D g ∧
    Ty K q (w.setCell ⟨g, n, none⟩ (.int .i32 ty)) { f with nms := f.nms.set n ty } fx D := by
  have hr := h.n
  rcases hr.2 with ⟨_, h0⟩ | ⟨g, cap, cur, hv, hbase, hblk, hle, hmax, hsz, htk⟩
  · omega
  have hF : Fr (fun b => b = g) w (w.setCell ⟨g, n, none⟩ (.int .i32 ty)) := (by repeat (first | with_reducible exact Fr.refl _ _ | (with_reducible refine Fr.drew ?_) | (with_reducible refine Fr.drewN ?_ _) | (with_reducible refine Fr.alloc ?_ _) | ((with_reducible refine Fr.setCell ?_ ?_ _); rotate_left; first | exact .inl rfl | exact .inr (Nat.le_refl _) | exact .inl (Nat.le_refl _) | (focus (left; simp; done)) | (focus (left; simp; omega)) | (focus (left; omega)) | (focus (right; simp; done)) | (focus (right; simp; omega)) | (focus (right; omega))) | exact Fr.refl _ _))
  have hg : D.NV.ownBlock = some g := by rw [hv]; rfl
  obtain ⟨t1, t2⟩ := h.tree hF fun b hb => by subst hb; exact hbase
  have hc : w.cell? ⟨g, n, none⟩ = some (.int .i32 (f.nms.getD n 0)) := by
    rw [hv] at hr
    rw [World.ownsRow.cellAt hr n (by omega)]
    simp [tyC, hn]
  refine ⟨g, cap, hv, (hr.lt g hg).2, hc, by simp [World.frozen?, hblk], .inr (.inl hg), h.so.frX hF (fun b hb hs => by subst hb; exact h.ns b hg hs), t1, h.old, t2, h.mo, ?_, rowKeep hF h.x (fun b hb hq => by subst hq; exact h.nx b hg hb), h.new, h.nx, h.ns, h.xs, h.ne, h.nb⟩
  refine ⟨by simp [tyC], .inr ⟨g, cap, cur.setIfInBounds n (.int .i32 ty), by simpa using hv, hbase, heap_setCell_same _ hblk, by simpa using hle, hmax, by simpa using hsz, ?_⟩⟩
  rw [Array.toList_setIfInBounds, List.take_set, List.length_set, htk]
  simp [tyC, List.map_set]

/-- The fixed types are put in place of what they were. -/
theorem Ty.fixed {v' : Value} (h : Ty K q w f fx D) (hF : Fr (fun _ => False) w w1) (hg : w1.grownBy w2 D.FV.ownBlock) (hr : w2.ownsRow K.b0 155 1 v' fx'.length (tyC fx')) (hv : v'.ownBlock = D.FV.ownBlock ∨ v'.ownBlock = some w1.heap.size) :
    Ty K q (w2.setCell ⟨q, 9, none⟩ v') f fx' { D with FV := v' } ∧ Fr (tow q D) w (w2.setCell ⟨q, 9, none⟩ v') ∧ ∀ b, tow q { D with FV := v' } b → tow q D b ∨ w.heap.size ≤ b := by
  have hsz := hF.size
  have h1 := h.fr hF
  have hF2 : Fr (fun b => D.FV.ownBlock = some b) w1 w2 := (Fr.refl _ w1).grown hg fun k hk => .inl hk
  have hF3 : Fr (fun b => b = q ∨ D.FV.ownBlock = some b) w1 (w2.setCell ⟨q, 9, none⟩ v') := (hF2.mono (fun _ h => .inl (.inr h))).setCell (.inl (.inl rfl)) _
  have hF2q : Fr (fun b => b = q) w2 (w2.setCell ⟨q, 9, none⟩ v') := (by repeat (first | with_reducible exact Fr.refl _ _ | (with_reducible refine Fr.drew ?_) | (with_reducible refine Fr.drewN ?_ _) | (with_reducible refine Fr.alloc ?_ _) | ((with_reducible refine Fr.setCell ?_ ?_ _); rotate_left; first | exact .inl rfl | exact .inr (Nat.le_refl _) | exact .inl (Nat.le_refl _) | (focus (left; simp; done)) | (focus (left; simp; omega)) | (focus (left; omega)) | (focus (right; simp; done)) | (focus (right; simp; omega)) | (focus (right; omega))) | exact Fr.refl _ _))
  have hnew : ∀ b, v'.ownBlock = some b → D.FV.ownBlock = some b ∨ w1.heap.size ≤ b := fun b hb => by
    rcases hv with h2 | h2
    · exact .inl (h2 ▸ hb)
    · rw [h2] at hb; cases hb; exact .inr (Nat.le_refl _)
  have hvs : ∀ b, v'.ownBlock = some b → ¬ sown q D.G D.bk b := fun b hb hs => by
    rcases hnew b hb with h2 | h2
    · exact h.xs b h2 hs
    · have := h1.so.own_lt b hs; omega
  obtain ⟨t1, t2⟩ := h1.tree hF3 fun b hb => by
    rcases hb with rfl | hb
    · exact h.new _ (.inl rfl)
    · exact (h.x.lt b hb).1
  have hS := (h1.so.frX hF2 (fun b hb hs => h.xs b hb hs)).oth (i := 9) (by decide) v'
  refine ⟨⟨by simpa [tyA] using hS, t1, h.old, t2, h.mo, rowKeep hF3 h1.n ?_, rowKeep hF2q hr (fun b hb hq => by subst hq; exact hvs _ hb (.inl rfl)), h.new, ?_, h.ns, hvs, h.ne, h.nb⟩, ?_, ?_⟩
  · intro b hb hx
    rcases hx with rfl | hx
    · exact h.ns _ hb (.inl rfl)
    · exact h.nx b hb hx
  · intro b hb hb'
    rcases hnew b hb' with h2 | h2
    · exact h.nx b hb h2
    · have := (h1.n.lt b hb).2; omega
  · exact (hF.mono (fun _ h => h.elim)).trans hF3 (fun b hb => by rcases hb with rfl | hb; exact .inl (.inl (.inl rfl)); exact .inl (.inr (.inr hb)))
  · rintro b (hb | hb | hb)
    · exact .inl (.inl hb)
    · exact .inl (.inr (.inl hb))
    · rcases hnew b hb with h2 | h2
      · exact .inl (.inr (.inr h2))
      · right; omega
end
end Go.Proofs.YtklimomeendajaaGreatDoor

/- Steps of the finder of types: the store's calls, same, want, empty, fix. -/
namespace Go.Proofs.YtklimomeendajaaGreatDoor
open Go.RowKit

section
variable {K : TC} {q : Nat} {w w' w1 w2 w0 : World} {f f' : FX} {fx fx' : List Int} {D D' D0 : TD} {s' : SX} {t a b : Int}

/-- Behind a step: the answer, and how the finder stands. -/
def TR (K : TC) (q : Nat) (w0 : World) (D0 : TD) (v : Value) (f' : FX) (fx' : List Int) (e : Ending) (w' : World) : Prop := e = .returned v ∧ ∃ D', Tx K q w0 D0 w' D' f' fx'

theorem Tx.sn {e : Ending} {v : Value} (h : Tx K q w0 D0 w D f fx) (hN : e = .returned v ∧ Sn q 5 154 (tyA K D.NV D.FV f.wr) w D.G D.bk w' s') : TR K q w0 D0 v { f with s := s' } fx e w' :=
  ⟨hN.1, (h.go (h.1.sn hN.2)).imp fun _ h => h.1⟩

theorem yNew_some {n : ND} (h : yNew f n = some (f', t)) : ∃ s', xAdd f.s n = some (s', t) ∧ f' = { f with s := s' } := by
  unfold yNew at h
  obtain ⟨⟨x1, x2⟩, h1, h2⟩ := bindO h
  injection h2 with h2
  injection h2 with e1 e2
  subst e1 e2
  exact ⟨x1, h1, rfl⟩

theorem Tx.unknown (h : Tx K q w0 D0 w D f fx) (hx : yNew f {} = some (f', t)) : Calls Tryz.prog 119 #[.pointer (some ⟨q, 5, none⟩)] w (TR K q w0 D0 (.int .i32 t) f' fx) := by
  obtain ⟨s', h1, rfl⟩ := yNew_some hx
  exact (unknown_so h.1.so h1).mono fun _ _ hN => h.sn hN

theorem Tx.list (h : Tx K q w0 D0 w D f fx) (hx : yNew f { k := 3, a := a } = some (f', t)) : Calls Tryz.prog 171 #[.pointer (some ⟨q, 5, none⟩), .int .i32 a] w (TR K q w0 D0 (.int .i32 t) f' fx) := by
  obtain ⟨s', h1, rfl⟩ := yNew_some hx
  exact (list_so h.1.so h1).mono fun _ _ hN => h.sn hN

theorem Tx.cont (h : Tx K q w0 D0 w D f fx) (hx : yNew f { k := 4, a := a } = some (f', t)) : Calls Tryz.prog 228 #[.pointer (some ⟨q, 5, none⟩), .int .i32 a] w (TR K q w0 D0 (.int .i32 t) f' fx) := by
  obtain ⟨s', h1, rfl⟩ := yNew_some hx
  exact (cont_so h.1.so h1).mono fun _ _ hN => h.sn hN

theorem Tx.pair (h : Tx K q w0 D0 w D f fx) (hx : yNew f { k := 5, a := a, b := b } = some (f', t)) : Calls Tryz.prog 172 #[.pointer (some ⟨q, 5, none⟩), .int .i32 a, .int .i32 b] w (TR K q w0 D0 (.int .i32 t) f' fx) := by
  obtain ⟨s', h1, rfl⟩ := yNew_some hx
  exact (pair_so h.1.so h1).mono fun _ _ hN => h.sn hN

theorem Tx.function (h : Tx K q w0 D0 w D f fx) (hx : yNew f { k := 6, a := a, b := b } = some (f', t)) : Calls Tryz.prog 225 #[.pointer (some ⟨q, 5, none⟩), .int .i32 a, .int .i32 b] w (TR K q w0 D0 (.int .i32 t) f' fx) := by
  obtain ⟨s', h1, rfl⟩ := yNew_some hx
  exact (function_so h.1.so h1).mono fun _ _ hN => h.sn hN

/-- The store has changed in its place. -/
theorem Tx.st (h : Tx K q w0 D0 w D f fx) (hS : So w' q 5 154 (tyA K D.NV D.FV f.wr) s' D.G D.bk) (hF : Fr (own2 q D.bk) w w') : Tx K q w0 D0 w' D { f with s := s' } fx :=
  ⟨h.1.st hS hF, h.2.1.trans hF (fun b hb => h.2.2 b (.inl (own2_sown hb))), h.2.2⟩

theorem Tx.mark (h : Tx K q w0 D0 w D f fx) : Tx K q w0 D0 (w.setCell ⟨q, 10, none⟩ (.bool true)) D { f with wr := true } fx :=
  ⟨h.1.mark, h.2.1.setCell (h.2.2 q (.inl (.inl rfl))) _, h.2.2⟩

set_option maxHeartbeats 600000 in
set_option maxRecDepth 100000 in
theorem Tx.same (h : Tx K q w0 D0 w D f fx) {n : Nat} (hx : ySame n f a b = some f') : Calls Tryz.prog 173 #[.pointer (some ⟨q, 0, none⟩), .int .i32 a, .int .i32 b] w (TR K q w0 D0 (.tuple #[]) f' fx) := by
  unfold ySame at hx
  obtain ⟨⟨s1, ok⟩, hs, hx⟩ := bindO hx
  injection hx with hx
  have HX : Hid (f' = { f with s := s1, wr := f.wr || !ok }) := hx.symm
  have HS : Hid (xSame n f.s [(a, b)] = some (s1, ok)) := hs
  have HT : Hid (Tx K q w0 D0 w D f fx) := h
  have hq := h.1.lt
  clear h hs hx
  cases ok with
  | true =>
    go_enter Tryz.func173, Tryz.ntmps173
    go_wp2_with fail
    refine (same_so HT.out.1.so HS.out).mono ?_
    rintro e1 w1 ⟨rfl, hS1, hF1⟩
    have HT1 : Hid (Tx K q w0 D0 w1 D { f with s := s1 } fx) := HT.out.st hS1 (fr2 hF1)
    clear hS1 hF1
    go_wp2_with fail
    go_end0
    refine ⟨rfl, D, ?_⟩
    rw [HX.out]
    simpa using HT1.out
  | false =>
    go_enter Tryz.func173, Tryz.ntmps173
    go_wp2_with fail
    refine (same_so HT.out.1.so HS.out).mono ?_
    rintro e1 w1 ⟨rfl, hS1, hF1⟩
    have hT1 := HT.out.st hS1 (fr2 hF1)
    have HT1 : Hid (Tx K q w0 D0 (w1.setCell ⟨q, 10, none⟩ (.bool true)) D { f with s := s1, wr := true } fx) := hT1.mark
    obtain ⟨⟨-, -, -, -, -, -, k10⟩, hfz⟩ := hT1.1.cells
    have z10 := hfz 10
    have hq1 := hT1.1.lt
    clear hS1 hF1 hT1 hfz
    go_wp2_with fail
    go_end0
    refine ⟨rfl, D, ?_⟩
    rw [HX.out]
    simpa using HT1.out

/-- The contract of exp: the fixed types stay. -/
def TCt (K : TC) (q : Nat) (f : FX) (fx : List Int) (i : Int) (x : FX × Int) : Prop := ∀ (w : World) (D : TD), Ty K q w f fx D →
  Calls Tryz.prog 73 #[.pointer (some ⟨q, 0, none⟩), .int .i64 i] w fun e w' => e = .returned (.int .i32 x.2) ∧ Tn K q w D w' x.1 fx

def TIh (K : TC) (q : Nat) (R : FX → List Int → Int → Option (FX × Int)) : Prop := ∀ f fx i x, R f fx i = some x → TCt K q f fx i x

theorem Tx.exp (h : Tx K q w0 D0 w D f fx) {R : FX → List Int → Int → Option (FX × Int)} (ih : TIh K q R) {i : Int} {x : FX × Int} (hx : R f fx i = some x) :
    Calls Tryz.prog 73 #[.pointer (some ⟨q, 0, none⟩), .int .i64 i] w (TR K q w0 D0 (.int .i32 x.2) x.1 fx) :=
  (ih _ _ _ _ hx w D h.1).mono fun _ _ hh => ⟨hh.1, (h.go hh.2).imp fun _ h => h.1⟩

set_option maxHeartbeats 600000 in
set_option maxRecDepth 100000 in
theorem Tx.want (h : Tx K q w0 D0 w D f fx) {R : FX → List Int → Int → Option (FX × Int)} (ih : TIh K q R) {n : Nat} {i ty : Int} (hx : yWant n R f fx i ty = some f') :
    Calls Tryz.prog 118 #[.pointer (some ⟨q, 0, none⟩), .int .i64 i, .int .i32 ty] w (TR K q w0 D0 (.tuple #[]) f' fx) := by
  unfold yWant at hx
  obtain ⟨⟨f1, t1⟩, hr, hx⟩ := bindO hx
  have HR : Hid (R f fx i = some (f1, t1)) := hr
  have HX : Hid (ySame n f1 t1 ty = some f') := hx
  have HT : Hid (Tx K q w0 D0 w D f fx) := h
  clear h hr hx
  go_enter Tryz.func118, Tryz.ntmps118
  go_wp2_with fail
  refine (HT.out.exp ih HR.out).mono ?_
  rintro e1 w1 ⟨rfl, D1, hT1⟩
  have HT1 : Hid (Tx K q w0 D0 w1 D1 f1 fx) := hT1
  clear hT1
  go_wp2_with fail
  refine (HT1.out.same HX.out).mono ?_
  rintro e2 w2 ⟨rfl, D2, hT2⟩
  have HT2 : Hid (Tx K q w0 D0 w2 D2 f' fx) := hT2
  clear hT2
  go_wp2_with fail
  go_end0
  exact ⟨rfl, D2, HT2.out⟩

set_option maxHeartbeats 600000 in
set_option maxRecDepth 100000 in
theorem Tx.empty (h : Tx K q w0 D0 w D f fx) {f1 : FX} (hx : yNew f {} = some (f1, a)) (hy : yNew f1 { k := 3, a := a } = some (f', t)) :
    Calls Tryz.prog 115 #[.pointer (some ⟨q, 0, none⟩)] w (TR K q w0 D0 (.int .i32 t) f' fx) := by
  have HX : Hid (yNew f {} = some (f1, a)) := hx
  have HY : Hid (yNew f1 { k := 3, a := a } = some (f', t)) := hy
  have HT : Hid (Tx K q w0 D0 w D f fx) := h
  have hq := h.1.lt
  clear h hx hy
  go_enter Tryz.func115, Tryz.ntmps115
  go_wp2_with fail
  refine (HT.out.unknown HX.out).mono ?_
  rintro e1 w1 ⟨rfl, D1, hT1⟩
  have HT1 : Hid (Tx K q w0 D0 w1 D1 f1 fx) := hT1
  have hq1 := hT1.1.lt
  clear hT1
  go_wp2_with fail
  refine (HT1.out.list HY.out).mono ?_
  rintro e2 w2 ⟨rfl, D2, hT2⟩
  have HT2 : Hid (Tx K q w0 D0 w2 D2 f' fx) := hT2
  clear hT2
  go_wp2_with fail
  go_ret
  exact ⟨rfl, D2, HT2.out⟩

theorem Tx.name (h : Tx K q w0 D0 w D f fx) {n : Nat} (hn : n < f.nms.length) (ty : Int) : ∃ g cap, D.NV = .slice (some ⟨g, 0, none⟩) f.nms.length cap ∧ g < w.heap.size ∧ w.cell? ⟨g, n, none⟩ = some (.int .i32 (f.nms.getD n 0)) ∧ w.frozen? ⟨g, n, none⟩ = false ∧
    Tx K q w0 D0 (w.setCell ⟨g, n, none⟩ (.int .i32 ty)) D { f with nms := f.nms.set n ty } fx := by
  obtain ⟨g, cap, h1, h2, h3, h4, h5, h6⟩ := h.1.name hn ty
  exact ⟨g, cap, h1, h2, h3, h4, h6, h.2.1.setCell (h.2.2 g h5) _, h.2.2⟩

theorem yName_some {ty : Int} (h : yName f b ty = some f') : ∃ n : Nat, b = (n : Int) ∧ n < f.nms.length ∧ f' = { f with nms := f.nms.set n ty } := by
  unfold yName at h
  split at h
  · rename_i hb
    injection h with h
    exact ⟨b.toNat, by omega, hb.2, h.symm⟩
  · cases h

set_option maxHeartbeats 600000 in
set_option maxRecDepth 100000 in
theorem Tx.fix (h : Tx K q w0 D0 w D f fx) {ty : Int} (hx : yFix f fx b ty = some (f', fx')) :
    Calls Tryz.prog 226 #[.pointer (some ⟨q, 0, none⟩), .int .i64 b, .int .i32 ty] w (TR K q w0 D0 (.tuple #[]) f' fx') := by
  unfold yFix at hx
  split at hx
  case isFalse => cases hx
  case isTrue hfl =>
  obtain ⟨f1, hn, hx⟩ := bindO hx
  injection hx with hx
  injection hx with e1 e2
  subst e1 e2
  obtain ⟨n, rfl, hnl, rfl⟩ := yName_some hn
  obtain ⟨g, cap, hNV, hg, cg, fg, hT1⟩ := h.name hnl ty
  obtain ⟨⟨-, -, -, -, c8, c9, -⟩, hfz⟩ := h.1.cells
  have f9 := hfz 9
  rw [hNV] at c8
  have hq := h.1.lt
  have hnl2 := row_le h.1.n
  have hgq : g ≠ q := fun e => h.1.ns g (by rw [hNV]; rfl) (.inl e)
  have HT1 : Hid (Tx K q w0 D0 (w.setCell ⟨g, n, none⟩ (.int .i32 ty)) D { f with nms := f.nms.set n ty } fx) := hT1
  obtain ⟨va, vc, hFV⟩ := ownsRow_len h.1.x
  rw [hFV] at c9
  have hR := hT1.1.x
  rw [hFV] at hR
  have hR2 := hR.alloc (.cells #[.int .i32 ty] 155)
  have HFV : Hid (D.FV = .slice va fx.length vc) := hFV
  have HXq : Hid (∀ b, (Value.slice va fx.length vc).ownBlock = some b → b ≠ q) := fun b hb e => hT1.1.xs b (by rw [hFV]; exact hb) (.inl e)
  have hb0 : K.b0 ≤ w.heap.size := by have := h.1.new q (.inl rfl); omega
  clear h hn hT1 hfz hNV hFV hR
  go_enter Tryz.func226, Tryz.ntmps226
  go_wp2_with (at_builtin; refine wpList_app slTy rfl (.tmp 17) (.tmp 19) rfl K.b0 fx.length (tyC fx) _ rfl hR2 ⟨w.heap.size, 0, none⟩ 1 1 [.int .i32 ty] rfl rfl ?c1 ?c2 (by decide) ?b1 ?b2 ?b3 ?grow)
  case c1 => intro j v hj; exact cells_new _ (by simp) hj
  case c2 => intro v hv; simp at hv; rcases hv with rfl; rfl
  case b1 => unfold maxLen; omega
  case b2 => omega
  case b3 => simp; omega
  case grow =>
    intro v' w3 hown hgrow hv g' cap' hfm
    subst hfm
    have hb3 : w3.heap[q]? = (w.setCell ⟨g, n, none⟩ (.int .i32 ty)).heap[q]? := (hgrow.block q (by simp; omega) (fun e => HXq.out q e.symm rfl)).trans (Below.heap_alloc _ _ _ (by simpa using hq))
    obtain ⟨⟨-, -, -, -, -, d9, -⟩, hfz⟩ := HT1.out.1.cells
    have k9 := World.cell?_of_block (w := w.setCell ⟨g, n, none⟩ (.int .i32 ty)) (a := ⟨q, 9, none⟩) hb3
    have z9 := World.frozen?_of_block (w := w.setCell ⟨g, n, none⟩ (.int .i32 ty)) (a := ⟨q, 9, none⟩) hb3
    rw [d9, HFV.out] at k9
    rw [hfz 9] at z9
    have hq3 : q < w3.heap.size := Nat.lt_of_lt_of_le hq (Nat.le_trans (by simp) hgrow.size)
    have hF := HT1.out.1.fixed (fx' := fx ++ [ty]) (w1 := (w.setCell ⟨g, n, none⟩ (.int .i32 ty)).alloc (.cells #[.int .i32 ty] 155)) (w2 := w3) (v' := .slice (some ⟨g', 0, none⟩) (fx.length + 1) cap') ((Fr.refl _ _).alloc _) (by rw [HFV.out]; exact hgrow) (by simpa [tyC] using hown) (by rw [HFV.out]; simpa using hv)
    have HF : Hid (∃ D', Tx K q w0 D0 (w3.setCell ⟨q, 9, none⟩ (.slice (some ⟨g', 0, none⟩) (fx.length + 1) cap')) D' { f with nms := f.nms.set n ty } (fx ++ [ty])) := (HT1.out.go ⟨_, hF⟩).imp fun _ h => h.1
    clear hown hgrow hv hb3 hR2 hF d9 hfz c8 c9 f9
    go_wp2_with fail
    go_end0
    exact ⟨rfl, HF.out⟩
end
end Go.Proofs.YtklimomeendajaaGreatDoor

/- within, open, isValue. -/
namespace Go.Proofs.YtklimomeendajaaGreatDoor
open Go.RowKit

/-- An expression of the tree, as it lies. -/
theorem Tr.ex {w : World} {t : RS} {E P B : Value} {cE : List Value} (h : Tr w t E P B cE) {i : Int} {e : EX} (he : expAt t i = some e) :
    ∃ (g cap n : Nat) (vf va : Value), E = .slice (some ⟨g, 0, none⟩) t.exps.length cap ∧ i = (n : Int) ∧ n < t.exps.length ∧ g < w.heap.size ∧ ExpAt w (fun _ => False) e vf va ∧ (vf ∈ cE ∧ va ∈ cE) ∧
      w.cell? ⟨g, n * 8, none⟩ = some (.int .i64 e.kind) ∧ w.cell? ⟨g, n * 8 + 1, none⟩ = some (.int .i64 e.num) ∧ w.cell? ⟨g, n * 8 + 2, none⟩ = some (.int .i64 e.binder) ∧
      w.cell? ⟨g, n * 8 + 3, none⟩ = some (.int .i64 e.first) ∧ w.cell? ⟨g, n * 8 + 4, none⟩ = some (.int .i64 e.second) ∧ w.cell? ⟨g, n * 8 + 5, none⟩ = some (.int .i64 e.third) ∧ w.cell? ⟨g, n * 8 + 6, none⟩ = some vf ∧ w.cell? ⟨g, n * 8 + 7, none⟩ = some va := by
  unfold expAt at he
  split at he
  case isFalse => cases he
  case isTrue h0 =>
  obtain ⟨hlt, rfl⟩ := List.getElem?_eq_some_iff.1 he
  have hl := h.e
  rcases hl.2 with ⟨_, h0⟩ | ⟨g, cap, cur, rfl, hg⟩
  · omega
  · obtain ⟨vf, va, h1, hm, e0, e1, e2, e3, e4, e5, e6, e7⟩ := ExpsAt.at _ _ h.eAt i.toNat hlt
    have hc : ∀ j v, cE[j]? = some v → j < t.exps.length * 8 → w.cell? ⟨g, j, none⟩ = some v := fun j v hj hlt' => by rw [World.ownsRow.cellAt hl _ hlt']; exact hj
    exact ⟨g, cap, i.toNat, vf, va, rfl, by omega, hlt, (hl.lt g rfl).2, h1, hm, hc _ _ e0 (by omega), hc _ _ e1 (by omega), hc _ _ e2 (by omega), hc _ _ e3 (by omega), hc _ _ e4 (by omega), hc _ _ e5 (by omega), hc _ _ e6 (by omega), hc _ _ e7 (by omega)⟩

section
variable {K : TC} {q : Nat} {w w' w1 w2 w0 : World} {f f' : FX} {fx fx' l : List Int} {D D' D0 : TD} {s' : SX} {t a b : Int}

/-- The fixed types are cut back. -/
theorem Tx.back (h : Tx K q w0 D0 w D f (fx ++ l)) {va : Option Addr} {vc : Nat} (hv : D.FV = .slice va (fx ++ l).length vc) : Tx K q w0 D0 (w.setCell ⟨q, 9, none⟩ (.slice va fx.length vc)) { D with FV := .slice va fx.length vc } f fx := by
  have hr := h.1.x
  rw [hv] at hr
  have hc := ownsRow_cut hr (k := fx.length) (by simp)
  have e : (tyC (fx ++ l)).take (fx.length * 1) = tyC fx := by
    have : tyC (fx ++ l) = tyC fx ++ tyC l := by simp [tyC]
    rw [this, Nat.mul_one]
    exact List.take_left' (by simp [tyC])
  rw [e] at hc
  obtain ⟨h1, h2, h3⟩ := h.1.fixed (w1 := w) (w2 := w) (v' := .slice va fx.length vc) (Fr.refl _ _) ⟨rfl, rfl, rfl, Nat.le_refl _, fun _ _ _ => rfl⟩ hc (.inl (by rw [hv]; cases va <;> rfl))
  refine ⟨h1, h.2.1.trans h2 h.2.2, fun b hb => ?_⟩
  rcases h3 b hb with h4 | h4
  · exact h.2.2 b h4
  · have := h.2.1.size; right; omega

set_option maxHeartbeats 600000 in
set_option maxRecDepth 100000 in
theorem Tx.within (h : Tx K q w0 D0 w D f fx) {R : FX → List Int → Int → Option (FX × Int)} (ih : TIh K q R) {ty body : Int} {x : FX × Int} (hx : yWithin R f fx b ty body = some x) :
    Calls Tryz.prog 223 #[.pointer (some ⟨q, 0, none⟩), .int .i64 b, .int .i32 ty, .int .i64 body] w (TR K q w0 D0 (.int .i32 x.2) x.1 fx) := by
  unfold yWithin at hx
  obtain ⟨⟨f1, fx1⟩, hf, hx⟩ := bindO hx
  have hfx : fx1 = fx ++ [ty] := by
    unfold yFix at hf
    split at hf
    · obtain ⟨g, -, hf⟩ := bindO hf
      injection hf with hf
      injection hf with _ hf
      exact hf.symm
    · cases hf
  subst hfx
  have HF : Hid (yFix f fx b ty = some (f1, fx ++ [ty])) := hf
  have HR : Hid (R f1 (fx ++ [ty]) body = some x) := hx
  have HT : Hid (Tx K q w0 D0 w D f fx) := h
  obtain ⟨⟨-, -, -, -, -, c9, -⟩, -⟩ := h.1.cells
  have hq := h.1.lt
  obtain ⟨va, vc, hFV⟩ := ownsRow_len h.1.x
  have hfl := row_le h.1.x
  rw [hFV] at c9
  clear h hf hx hFV
  go_enter Tryz.func223, Tryz.ntmps223
  go_wp2_with fail
  refine (HT.out.fix HF.out).mono ?_
  rintro e1 w1 ⟨rfl, D1, hT1⟩
  have HT1 : Hid (Tx K q w0 D0 w1 D1 f1 (fx ++ [ty])) := hT1
  clear hT1 c9
  go_wp2_with fail
  refine (HT1.out.exp ih HR.out).mono ?_
  rintro e2 w2 ⟨rfl, D2, hT2⟩
  obtain ⟨⟨-, -, -, -, -, c9, -⟩, hfz⟩ := hT2.1.cells
  have f9 := hfz 9
  have hq2 := hT2.1.lt
  obtain ⟨va2, vc2, hFV⟩ := ownsRow_len hT2.1.x
  have hcap := hT2.1.x
  rw [hFV] at hcap
  have hcap := ownsRow_cap hcap
  rw [hFV] at c9
  have HT2 : Hid (Tx K q w0 D0 (w2.setCell ⟨q, 9, none⟩ (.slice va2 fx.length vc2)) { D2 with FV := .slice va2 fx.length vc2 } x.1 fx) := hT2.back hFV
  rw [List.length_append, List.length_cons, List.length_nil, Nat.zero_add] at hcap
  rw [List.length_append, List.length_cons, List.length_nil, Nat.zero_add] at c9
  have hle : fx.length ≤ vc2 := by omega
  clear hT2 hFV hfz
  go_wp2_with fail
  go_ret
  exact ⟨rfl, _, HT2.out⟩

set_option maxHeartbeats 600000 in
set_option maxRecDepth 100000 in
theorem Tx.open (h : Tx K q w0 D0 w D f fx) {n : Nat} (hx : yOpen n f fx b = some f') :
    Calls Tryz.prog 224 #[.pointer (some ⟨q, 0, none⟩), .int .i64 b] w (TR K q w0 D0 (.tuple #[]) f' fx) := by
  unfold yOpen geti at hx
  obtain ⟨ty, hg, hy⟩ := bindO hx
  clear hx
  split at hg
  case isFalse => cases hg
  case isTrue hb0 =>
  obtain ⟨⟨s1, ok⟩, ho, hx⟩ := bindO hy
  clear hy
  injection hx with hx
  obtain ⟨m, rfl⟩ : ∃ m : Nat, b = (m : Int) := ⟨b.toNat, by omega⟩
  obtain ⟨hlt, hge⟩ := List.getElem?_eq_some_iff.1 hg
  have hlt : m < f.nms.length := by simpa using hlt
  obtain ⟨g, cap, hNV, cg, hgl⟩ := tyAt h.1.n hlt
  have hgd : f.nms.getD m 0 = ty := by rw [← hge]; simp [hlt]
  rw [hgd] at cg
  obtain ⟨⟨-, -, -, -, c8, c9, -⟩, -⟩ := h.1.cells
  rw [hNV] at c8
  obtain ⟨va, vc, hFV⟩ := ownsRow_len h.1.x
  rw [hFV] at c9
  have hnl := row_le h.1.n
  have hq := h.1.lt
  have HX : Hid (f' = { f with s := s1, wr := f.wr || !ok }) := hx.symm
  have HO : Hid (xOpen n f.s ty fx = some (s1, ok)) := ho
  have HT : Hid (Tx K q w0 D0 w D f fx) := h
  have HV : Hid ((w.drew).ownsRow 0 155 1 (.slice va fx.length vc) fx.length (tyC fx)) := by
    show World.ownsRow _ _ _ _ _ _ _
    have := h.1.x
    rw [hFV] at this
    exact ownsRow_base this (fun _ _ => Nat.zero_le _)
  have HVO : Hid (∀ b, (Value.slice va fx.length vc).ownBlock = some b → ¬ sown q D.G D.bk b) := fun b hb => h.1.xs b (by rw [hFV]; exact hb)
  have hmc : (m : Int) < (f.nms.length : Int) := by omega
  clear h hg hx ho hge hNV hFV hgd
  go_enter Tryz.func224, Tryz.ntmps224
  go_wp2_with fail
  refine region_tail 14 mixed (by kernel_rfl) ?_
  simp only [List.take_succ_cons, List.take_zero, List.drop_succ_cons, List.drop_zero]
  repeat still_step
  refine wpStill_nil ?_
  go_wp2_with fail
  refine (open_so (HT.out.1.so.fr ((Fr.refl _ _).drew)) HO.out HV.out HVO.out).mono ?_
  rintro e1 w1 ⟨rfl, hS1, hF1⟩
  have hT1 := (HT.out.fr ((Fr.refl _ _).drew)).st hS1 hF1
  obtain ⟨⟨-, -, -, -, -, -, k10⟩, hfz⟩ := hT1.1.cells
  have z10 := hfz 10
  have hq1 := hT1.1.lt
  have HT1 : Hid (Tx K q w0 D0 w1 D { f with s := s1 } fx) := hT1
  have HT2 : Hid (Tx K q w0 D0 (w1.setCell ⟨q, 10, none⟩ (.bool true)) D { f with s := s1, wr := true } fx) := hT1.mark
  clear hS1 hF1 hT1 hfz
  cases ok with
  | true =>
    go_wp2_with fail
    go_end0
    refine ⟨rfl, D, ?_⟩
    rw [HX.out]
    simpa using HT1.out
  | false =>
    go_wp2_with fail
    go_end0
    refine ⟨rfl, D, ?_⟩
    rw [HX.out]
    simpa using HT2.out

theorem cells8' {w : World} {l : Nat} {a b c d e f g h : Value} {t : TypeId} (hb : w.heap[l]? = some (.cells #[a, b, c, d, e, f, g, h] t (0, 0))) :
    w.cell? ⟨l, 0, none⟩ = some a ∧ w.cell? ⟨l, 1, none⟩ = some b ∧ w.cell? ⟨l, 2, none⟩ = some c ∧ w.cell? ⟨l, 3, none⟩ = some d ∧ w.cell? ⟨l, 4, none⟩ = some e ∧ w.cell? ⟨l, 5, none⟩ = some f ∧ w.cell? ⟨l, 6, none⟩ = some g ∧ w.cell? ⟨l, 7, none⟩ = some h := cells8 hb

/-- isValue writes nothing old. -/
def VCt (K : TC) (q : Nat) (i : Int) (v : Bool) : Prop := ∀ (w : World) (f : FX) (fx : List Int) (D : TD), Ty K q w f fx D →
  Calls Tryz.prog 222 #[.pointer (some ⟨q, 0, none⟩), .int .i64 i] w fun e w' => e = .returned (.bool v) ∧ Fr (fun _ => False) w w'

set_option maxHeartbeats 1000000 in
set_option maxRecDepth 100000 in
theorem val_step {n : Nat} (ih : ∀ i v, yVal K.t n i = some v → VCt K q i v) (i : Int) (v : Bool) (hx : yVal K.t (n + 1) i = some v) : VCt K q i v := by
  intro w f fx D h
  rw [yVal] at hx
  obtain ⟨⟨kk, nu, bi, e1, e2, e3, fs, am⟩, he, hy⟩ := bindO hx
  clear hx
  have hx := hy
  clear hy
  dsimp only at hx
  obtain ⟨g, cap, m, vf, va, hE, rfl, hm, hg, hea, -, d0, d1, d2, d3, d4, d5, d6, d7⟩ := h.tr.ex he
  obtain ⟨⟨c0, -⟩, -⟩ := h.cells
  rw [hE] at c0
  have hq := h.lt
  have hne := h.ne
  have HT : Hid (Ty K q w f fx D) := h
  obtain ⟨fa, fc, rfl⟩ := ownsRow_len hea.f
  obtain ⟨aa, ac, rfl⟩ := ownsRow_len hea.a
  clear h he hea hE
  by_cases h1 : kk = 4 ∨ kk = 1 ∨ kk = 2 ∨ kk = 3 ∨ kk = 5 ∨ kk = 12
  · rw [if_pos h1] at hx
    injection hx with hx
    subst hx
    rcases h1 with rfl | rfl | rfl | rfl | rfl | rfl
    all_goals
      go_enter Tryz.func222, Tryz.ntmps222
      go_wp2_with fail
      go_ret
      exact ⟨rfl, (by repeat (first | with_reducible exact Fr.refl _ _ | (with_reducible refine Fr.drew ?_) | (with_reducible refine Fr.drewN ?_ _) | (with_reducible refine Fr.alloc ?_ _) | ((with_reducible refine Fr.setCell ?_ ?_ _); rotate_left; first | exact .inl rfl | exact .inr (Nat.le_refl _) | exact .inl (Nat.le_refl _) | (focus (left; simp; done)) | (focus (left; simp; omega)) | (focus (left; omega)) | (focus (right; simp; done)) | (focus (right; simp; omega)) | (focus (right; omega))) | exact Fr.refl _ _))⟩
  rw [if_neg h1] at hx
  by_cases h2 : kk = 7 ∨ kk = 8
  · rw [if_pos h2] at hx
    obtain ⟨v1, hv1, hx⟩ := bindO hx
    have HV1 : Hid (VCt K q e1 v1) := ih _ _ hv1
    clear hv1 h1
    cases v1 with
    | false =>
      injection hx with hx
      subst hx
      rcases h2 with rfl | rfl
      all_goals
        go_enter Tryz.func222, Tryz.ntmps222
        go_wp2_with fail
        refine (HV1.out _ f fx D (HT.out.fr (by repeat (first | with_reducible exact Fr.refl _ _ | (with_reducible refine Fr.drew ?_) | (with_reducible refine Fr.drewN ?_ _) | (with_reducible refine Fr.alloc ?_ _) | ((with_reducible refine Fr.setCell ?_ ?_ _); rotate_left; first | exact .inl rfl | exact .inr (Nat.le_refl _) | exact .inl (Nat.le_refl _) | (focus (left; simp; done)) | (focus (left; simp; omega)) | (focus (left; omega)) | (focus (right; simp; done)) | (focus (right; simp; omega)) | (focus (right; omega))) | exact Fr.refl _ _)))).mono ?_
        rintro r1 w1 ⟨rfl, hF1⟩
        have HF1 : Hid (Fr (fun _ => False) w w1) := Fr.trans (O' := fun _ => False) (by repeat (first | with_reducible exact Fr.refl _ _ | (with_reducible refine Fr.drew ?_) | (with_reducible refine Fr.drewN ?_ _) | (with_reducible refine Fr.alloc ?_ _) | ((with_reducible refine Fr.setCell ?_ ?_ _); rotate_left; first | exact .inl rfl | exact .inr (Nat.le_refl _) | exact .inl (Nat.le_refl _) | (focus (left; simp; done)) | (focus (left; simp; omega)) | (focus (left; omega)) | (focus (right; simp; done)) | (focus (right; simp; omega)) | (focus (right; omega))) | exact Fr.refl _ _)) hF1 (fun _ h => h.elim)
        clear hF1
        go_wp2_with fail
        go_ret
        exact ⟨rfl, HF1.out⟩
    | true =>
      have HV2 : Hid (VCt K q e2 v) := ih _ _ hx
      clear hx
      rcases h2 with rfl | rfl
      all_goals
        go_enter Tryz.func222, Tryz.ntmps222
        go_wp2_with fail
        refine (HV1.out _ f fx D (HT.out.fr (by repeat (first | with_reducible exact Fr.refl _ _ | (with_reducible refine Fr.drew ?_) | (with_reducible refine Fr.drewN ?_ _) | (with_reducible refine Fr.alloc ?_ _) | ((with_reducible refine Fr.setCell ?_ ?_ _); rotate_left; first | exact .inl rfl | exact .inr (Nat.le_refl _) | exact .inl (Nat.le_refl _) | (focus (left; simp; done)) | (focus (left; simp; omega)) | (focus (left; omega)) | (focus (right; simp; done)) | (focus (right; simp; omega)) | (focus (right; omega))) | exact Fr.refl _ _)))).mono ?_
        rintro r1 w1 ⟨rfl, hF1⟩
        have hbl := (hF1.block _ (blk_lt (blk_new w _)) id).trans (blk_new w _)
        have HF1 : Hid (Fr (fun _ => False) w w1) := Fr.trans (O' := fun _ => False) (by repeat (first | with_reducible exact Fr.refl _ _ | (with_reducible refine Fr.drew ?_) | (with_reducible refine Fr.drewN ?_ _) | (with_reducible refine Fr.alloc ?_ _) | ((with_reducible refine Fr.setCell ?_ ?_ _); rotate_left; first | exact .inl rfl | exact .inr (Nat.le_refl _) | exact .inl (Nat.le_refl _) | (focus (left; simp; done)) | (focus (left; simp; omega)) | (focus (left; omega)) | (focus (right; simp; done)) | (focus (right; simp; omega)) | (focus (right; omega))) | exact Fr.refl _ _)) hF1 (fun _ h => h.elim)
        obtain ⟨m0, m1, m2, m3, m4, m5, m6, m7⟩ := cells8 hbl
        have hl1 := blk_lt hbl
        clear hF1 hbl
        go_wp2_with fail
        refine (HV2.out _ f fx D (HT.out.fr HF1.out)).mono ?_
        rintro r2 w2 ⟨rfl, hF2⟩
        have HF2 : Hid (Fr (fun _ => False) w w2) := HF1.out.trans hF2 (fun _ h => h.elim)
        clear hF2
        go_wp2_with fail
        go_ret
        exact ⟨rfl, HF2.out⟩
  rw [if_neg h2] at hx
  injection hx with hx
  subst hx
  have k1 : ¬ kk = 1 := fun h => h1 (by omega)
  have k2 : ¬ kk = 2 := fun h => h1 (by omega)
  have k3 : ¬ kk = 3 := fun h => h1 (by omega)
  have k4 : ¬ kk = 4 := fun h => h1 (by omega)
  have k5 : ¬ kk = 5 := fun h => h1 (by omega)
  have k12 : ¬ kk = 12 := fun h => h1 (by omega)
  have k7 : ¬ kk = 7 := fun h => h2 (.inl h)
  have k8 : ¬ kk = 8 := fun h => h2 (.inr h)
  clear h1 h2
  go_enter Tryz.func222, Tryz.ntmps222
  go_wp2_with fail
  go_ret
  exact ⟨rfl, (by repeat (first | with_reducible exact Fr.refl _ _ | (with_reducible refine Fr.drew ?_) | (with_reducible refine Fr.drewN ?_ _) | (with_reducible refine Fr.alloc ?_ _) | ((with_reducible refine Fr.setCell ?_ ?_ _); rotate_left; first | exact .inl rfl | exact .inr (Nat.le_refl _) | exact .inl (Nat.le_refl _) | (focus (left; simp; done)) | (focus (left; simp; omega)) | (focus (left; omega)) | (focus (right; simp; done)) | (focus (right; simp; omega)) | (focus (right; omega))) | exact Fr.refl _ _))⟩

theorem val_all : ∀ (n : Nat) (i : Int) (v : Bool), yVal K.t n i = some v → VCt K q i v
  | 0, _, _, h => by cases h
  | n + 1, i, v, h => val_step (val_all n) i v h
end
end Go.Proofs.YtklimomeendajaaGreatDoor

/- The forms of expressions (made by tools/mk_ty.py). -/
namespace Go.Proofs.YtklimomeendajaaGreatDoor
open Go.RowKit

section
variable {K : TC} {q : Nat} {w w0 : World} {f : FX} {fx : List Int} {D D0 : TD} {R : FX → List Int → Int → Option (FX × Int)} {n : Nat} {e1 e2 : Int}

set_option maxHeartbeats 1000000 in
set_option maxRecDepth 100000 in
theorem Tx.pairE (h : Tx K q w0 D0 w D f fx) (ih : TIh K q R) {f1 : FX} {t1 : Int} (h1 : R f fx e1 = some (f1, t1)) {f2 : FX} {t2 : Int} (h2 : R f1 fx e2 = some (f2, t2)) {f3 : FX} {t3 : Int} (h3 : yNew f2 { k := 5, a := t1, b := t2 } = some (f3, t3)) (kk nu bi e3 : Int) (fa aa : Option Addr) (fl fc al ac : Nat) :
    Calls Tryz.prog 116 #[.pointer (some ⟨q, 0, none⟩), .agg #[.int .i64 kk, .int .i64 nu, .int .i64 bi, .int .i64 e1, .int .i64 e2, .int .i64 e3, .slice fa fl fc, .slice aa al ac]] w (TR K q w0 D0 (.int .i32 t3) f3 fx) := by
  have H1 : Hid (R f fx e1 = some (f1, t1)) := h1
  have H2 : Hid (R f1 fx e2 = some (f2, t2)) := h2
  have H3 : Hid (yNew f2 { k := 5, a := t1, b := t2 } = some (f3, t3)) := h3
  have HT : Hid (Tx K q w0 D0 w D f fx) := h
  generalize hW : w.alloc (.cells #[.int .i64 kk, .int .i64 nu, .int .i64 bi, .int .i64 e1, .int .i64 e2, .int .i64 e3, .slice fa fl fc, .slice aa al ac] 162) = W
  have HFW : Hid (Fr (fun _ => False) w W) := by rw [← hW]; exact (Fr.refl _ w).alloc _
  have hbl : W.heap[w.heap.size]? = some (.cells #[.int .i64 kk, .int .i64 nu, .int .i64 bi, .int .i64 e1, .int .i64 e2, .int .i64 e3, .slice fa fl fc, .slice aa al ac] 162 (0, 0)) := by rw [← hW]; exact blk_new w _
  have HX0 : Hid (Tx K q W D W D f fx) := Tx.start (h.1.fr HFW.out)
  have hn := h.1.loc (Nat.le_refl _)
  have HL : Hid (∀ w' D' f' fx', Tx K q W D w' D' f' fx' → w'.heap[w.heap.size]? = some (.cells #[.int .i64 kk, .int .i64 nu, .int .i64 bi, .int .i64 e1, .int .i64 e2, .int .i64 e3, .slice fa fl fc, .slice aa al ac] 162 (0, 0))) := fun _ _ _ _ hx => hx.blk hn hbl
  obtain ⟨m0, m1, m2, m3, m4, m5, m6, m7⟩ := cells8 hbl
  have hl0 := blk_lt hbl
  have hq0 := HX0.out.1.lt
  clear h hbl hn h1 h2 h3
  go_enter Tryz.func116, Tryz.ntmps116
  go_wp2_with fail
  refine (HX0.out.exp ih H1.out).mono ?_
  rintro r1 w1 ⟨rfl, D1, hX1⟩
  have HX1 : Hid (Tx K q W D w1 D1 f1 fx) := hX1
  have hb1 := HL.out _ _ _ _ hX1
  have hq1 := hX1.1.lt
  have hl1 := blk_lt hb1
  clear m0 m1 m2 m3 m4 m5 m6 m7 hX1 HX0 hq0 hl0 hW
  obtain ⟨m0, m1, m2, m3, m4, m5, m6, m7⟩ := cells8 hb1
  clear hb1
  go_wp2_with fail
  refine (HX1.out.exp ih H2.out).mono ?_
  rintro r2 w2 ⟨rfl, D2, hX2⟩
  have HX2 : Hid (Tx K q W D w2 D2 f2 fx) := hX2
  have hb2 := HL.out _ _ _ _ hX2
  have hq2 := hX2.1.lt
  have hl2 := blk_lt hb2
  clear m0 m1 m2 m3 m4 m5 m6 m7 hX2 HX1 hq1 hl1
  obtain ⟨m0, m1, m2, m3, m4, m5, m6, m7⟩ := cells8 hb2
  clear hb2
  go_wp2_with fail
  refine (HX2.out.pair H3.out).mono ?_
  rintro r3 w3 ⟨rfl, D3, hX3⟩
  have HX3 : Hid (Tx K q W D w3 D3 f3 fx) := hX3
  have hb3 := HL.out _ _ _ _ hX3
  have hq3 := hX3.1.lt
  have hl3 := blk_lt hb3
  clear m0 m1 m2 m3 m4 m5 m6 m7 hX3 HX2 hq2 hl2
  obtain ⟨m0, m1, m2, m3, m4, m5, m6, m7⟩ := cells8 hb3
  clear hb3
  go_wp2_with fail
  go_ret
  exact ⟨rfl, ((HT.out.fr HFW.out).go HX3.out.n).imp fun _ h => h.1⟩

set_option maxHeartbeats 1000000 in
set_option maxRecDepth 100000 in
theorem Tx.consE (h : Tx K q w0 D0 w D f fx) (ih : TIh K q R) {f1 : FX} {t1 : Int} (h1 : R f fx e1 = some (f1, t1)) {f2 : FX} {t2 : Int} (h2 : yNew f1 { k := 3, a := t1 } = some (f2, t2)) {f3 : FX} (h3 : yWant n R f2 fx e2 t2 = some f3) (kk nu bi e3 : Int) (fa aa : Option Addr) (fl fc al ac : Nat) :
    Calls Tryz.prog 117 #[.pointer (some ⟨q, 0, none⟩), .agg #[.int .i64 kk, .int .i64 nu, .int .i64 bi, .int .i64 e1, .int .i64 e2, .int .i64 e3, .slice fa fl fc, .slice aa al ac]] w (TR K q w0 D0 (.int .i32 t2) f3 fx) := by
  have H1 : Hid (R f fx e1 = some (f1, t1)) := h1
  have H2 : Hid (yNew f1 { k := 3, a := t1 } = some (f2, t2)) := h2
  have H3 : Hid (yWant n R f2 fx e2 t2 = some f3) := h3
  have HT : Hid (Tx K q w0 D0 w D f fx) := h
  generalize hW : w.alloc (.cells #[.int .i64 kk, .int .i64 nu, .int .i64 bi, .int .i64 e1, .int .i64 e2, .int .i64 e3, .slice fa fl fc, .slice aa al ac] 162) = W
  have HFW : Hid (Fr (fun _ => False) w W) := by rw [← hW]; exact (Fr.refl _ w).alloc _
  have hbl : W.heap[w.heap.size]? = some (.cells #[.int .i64 kk, .int .i64 nu, .int .i64 bi, .int .i64 e1, .int .i64 e2, .int .i64 e3, .slice fa fl fc, .slice aa al ac] 162 (0, 0)) := by rw [← hW]; exact blk_new w _
  have HX0 : Hid (Tx K q W D W D f fx) := Tx.start (h.1.fr HFW.out)
  have hn := h.1.loc (Nat.le_refl _)
  have HL : Hid (∀ w' D' f' fx', Tx K q W D w' D' f' fx' → w'.heap[w.heap.size]? = some (.cells #[.int .i64 kk, .int .i64 nu, .int .i64 bi, .int .i64 e1, .int .i64 e2, .int .i64 e3, .slice fa fl fc, .slice aa al ac] 162 (0, 0))) := fun _ _ _ _ hx => hx.blk hn hbl
  obtain ⟨m0, m1, m2, m3, m4, m5, m6, m7⟩ := cells8 hbl
  have hl0 := blk_lt hbl
  have hq0 := HX0.out.1.lt
  clear h hbl hn h1 h2 h3
  go_enter Tryz.func117, Tryz.ntmps117
  go_wp2_with fail
  refine (HX0.out.exp ih H1.out).mono ?_
  rintro r1 w1 ⟨rfl, D1, hX1⟩
  have HX1 : Hid (Tx K q W D w1 D1 f1 fx) := hX1
  have hb1 := HL.out _ _ _ _ hX1
  have hq1 := hX1.1.lt
  have hl1 := blk_lt hb1
  clear m0 m1 m2 m3 m4 m5 m6 m7 hX1 HX0 hq0 hl0 hW
  obtain ⟨m0, m1, m2, m3, m4, m5, m6, m7⟩ := cells8 hb1
  clear hb1
  go_wp2_with fail
  refine (HX1.out.list H2.out).mono ?_
  rintro r2 w2 ⟨rfl, D2, hX2⟩
  have HX2 : Hid (Tx K q W D w2 D2 f2 fx) := hX2
  have hb2 := HL.out _ _ _ _ hX2
  have hq2 := hX2.1.lt
  have hl2 := blk_lt hb2
  clear m0 m1 m2 m3 m4 m5 m6 m7 hX2 HX1 hq1 hl1
  obtain ⟨m0, m1, m2, m3, m4, m5, m6, m7⟩ := cells8 hb2
  clear hb2
  go_wp2_with fail
  refine (HX2.out.want ih H3.out).mono ?_
  rintro r3 w3 ⟨rfl, D3, hX3⟩
  have HX3 : Hid (Tx K q W D w3 D3 f3 fx) := hX3
  have hb3 := HL.out _ _ _ _ hX3
  have hq3 := hX3.1.lt
  have hl3 := blk_lt hb3
  clear m0 m1 m2 m3 m4 m5 m6 m7 hX3 HX2 hq2 hl2
  obtain ⟨m0, m1, m2, m3, m4, m5, m6, m7⟩ := cells8 hb3
  clear hb3
  go_wp2_with fail
  go_ret
  exact ⟨rfl, ((HT.out.fr HFW.out).go HX3.out.n).imp fun _ h => h.1⟩

set_option maxHeartbeats 1000000 in
set_option maxRecDepth 100000 in
theorem Tx.callE (h : Tx K q w0 D0 w D f fx) (ih : TIh K q R) {f1 : FX} {t1 : Int} (h1 : R f fx e1 = some (f1, t1)) {f2 : FX} {t2 : Int} (h2 : R f1 fx e2 = some (f2, t2)) {f3 : FX} {t3 : Int} (h3 : yNew f2 {} = some (f3, t3)) {f4 : FX} {t4 : Int} (h4 : yNew f3 { k := 6, a := t2, b := t3 } = some (f4, t4)) {f5 : FX} (h5 : ySame n f4 t1 t4 = some f5) (kk nu bi e3 : Int) (fa aa : Option Addr) (fl fc al ac : Nat) :
    Calls Tryz.prog 182 #[.pointer (some ⟨q, 0, none⟩), .agg #[.int .i64 kk, .int .i64 nu, .int .i64 bi, .int .i64 e1, .int .i64 e2, .int .i64 e3, .slice fa fl fc, .slice aa al ac]] w (TR K q w0 D0 (.int .i32 t3) f5 fx) := by
  have H1 : Hid (R f fx e1 = some (f1, t1)) := h1
  have H2 : Hid (R f1 fx e2 = some (f2, t2)) := h2
  have H3 : Hid (yNew f2 {} = some (f3, t3)) := h3
  have H4 : Hid (yNew f3 { k := 6, a := t2, b := t3 } = some (f4, t4)) := h4
  have H5 : Hid (ySame n f4 t1 t4 = some f5) := h5
  have HT : Hid (Tx K q w0 D0 w D f fx) := h
  generalize hW : w.alloc (.cells #[.int .i64 kk, .int .i64 nu, .int .i64 bi, .int .i64 e1, .int .i64 e2, .int .i64 e3, .slice fa fl fc, .slice aa al ac] 162) = W
  have HFW : Hid (Fr (fun _ => False) w W) := by rw [← hW]; exact (Fr.refl _ w).alloc _
  have hbl : W.heap[w.heap.size]? = some (.cells #[.int .i64 kk, .int .i64 nu, .int .i64 bi, .int .i64 e1, .int .i64 e2, .int .i64 e3, .slice fa fl fc, .slice aa al ac] 162 (0, 0)) := by rw [← hW]; exact blk_new w _
  have HX0 : Hid (Tx K q W D W D f fx) := Tx.start (h.1.fr HFW.out)
  have hn := h.1.loc (Nat.le_refl _)
  have HL : Hid (∀ w' D' f' fx', Tx K q W D w' D' f' fx' → w'.heap[w.heap.size]? = some (.cells #[.int .i64 kk, .int .i64 nu, .int .i64 bi, .int .i64 e1, .int .i64 e2, .int .i64 e3, .slice fa fl fc, .slice aa al ac] 162 (0, 0))) := fun _ _ _ _ hx => hx.blk hn hbl
  obtain ⟨m0, m1, m2, m3, m4, m5, m6, m7⟩ := cells8 hbl
  have hl0 := blk_lt hbl
  have hq0 := HX0.out.1.lt
  clear h hbl hn h1 h2 h3 h4 h5
  go_enter Tryz.func182, Tryz.ntmps182
  go_wp2_with fail
  refine (HX0.out.exp ih H1.out).mono ?_
  rintro r1 w1 ⟨rfl, D1, hX1⟩
  have HX1 : Hid (Tx K q W D w1 D1 f1 fx) := hX1
  have hb1 := HL.out _ _ _ _ hX1
  have hq1 := hX1.1.lt
  have hl1 := blk_lt hb1
  clear m0 m1 m2 m3 m4 m5 m6 m7 hX1 HX0 hq0 hl0 hW
  obtain ⟨m0, m1, m2, m3, m4, m5, m6, m7⟩ := cells8 hb1
  clear hb1
  go_wp2_with fail
  refine (HX1.out.exp ih H2.out).mono ?_
  rintro r2 w2 ⟨rfl, D2, hX2⟩
  have HX2 : Hid (Tx K q W D w2 D2 f2 fx) := hX2
  have hb2 := HL.out _ _ _ _ hX2
  have hq2 := hX2.1.lt
  have hl2 := blk_lt hb2
  clear m0 m1 m2 m3 m4 m5 m6 m7 hX2 HX1 hq1 hl1
  obtain ⟨m0, m1, m2, m3, m4, m5, m6, m7⟩ := cells8 hb2
  clear hb2
  go_wp2_with fail
  refine (HX2.out.unknown H3.out).mono ?_
  rintro r3 w3 ⟨rfl, D3, hX3⟩
  have HX3 : Hid (Tx K q W D w3 D3 f3 fx) := hX3
  have hb3 := HL.out _ _ _ _ hX3
  have hq3 := hX3.1.lt
  have hl3 := blk_lt hb3
  clear m0 m1 m2 m3 m4 m5 m6 m7 hX3 HX2 hq2 hl2
  obtain ⟨m0, m1, m2, m3, m4, m5, m6, m7⟩ := cells8 hb3
  clear hb3
  go_wp2_with fail
  refine (HX3.out.function H4.out).mono ?_
  rintro r4 w4 ⟨rfl, D4, hX4⟩
  have HX4 : Hid (Tx K q W D w4 D4 f4 fx) := hX4
  have hb4 := HL.out _ _ _ _ hX4
  have hq4 := hX4.1.lt
  have hl4 := blk_lt hb4
  clear m0 m1 m2 m3 m4 m5 m6 m7 hX4 HX3 hq3 hl3
  obtain ⟨m0, m1, m2, m3, m4, m5, m6, m7⟩ := cells8 hb4
  clear hb4
  go_wp2_with fail
  refine (HX4.out.same H5.out).mono ?_
  rintro r5 w5 ⟨rfl, D5, hX5⟩
  have HX5 : Hid (Tx K q W D w5 D5 f5 fx) := hX5
  have hb5 := HL.out _ _ _ _ hX5
  have hq5 := hX5.1.lt
  have hl5 := blk_lt hb5
  clear m0 m1 m2 m3 m4 m5 m6 m7 hX5 HX4 hq4 hl4
  obtain ⟨m0, m1, m2, m3, m4, m5, m6, m7⟩ := cells8 hb5
  clear hb5
  go_wp2_with fail
  go_ret
  exact ⟨rfl, ((HT.out.fr HFW.out).go HX5.out.n).imp fun _ h => h.1⟩

set_option maxHeartbeats 1000000 in
set_option maxRecDepth 100000 in
theorem Tx.callccE (h : Tx K q w0 D0 w D f fx) (ih : TIh K q R) {f1 : FX} {t1 : Int} (h1 : yNew f {} = some (f1, t1)) {f2 : FX} {t2 : Int} (h2 : yNew f1 { k := 4, a := t1 } = some (f2, t2)) {f3 : FX} {t3 : Int} (h3 : yNew f2 { k := 6, a := t2, b := t1 } = some (f3, t3)) {f4 : FX} (h4 : yWant n R f3 fx e1 t3 = some f4) (kk nu bi e3 : Int) (fa aa : Option Addr) (fl fc al ac : Nat) :
    Calls Tryz.prog 180 #[.pointer (some ⟨q, 0, none⟩), .agg #[.int .i64 kk, .int .i64 nu, .int .i64 bi, .int .i64 e1, .int .i64 e2, .int .i64 e3, .slice fa fl fc, .slice aa al ac]] w (TR K q w0 D0 (.int .i32 t1) f4 fx) := by
  have H1 : Hid (yNew f {} = some (f1, t1)) := h1
  have H2 : Hid (yNew f1 { k := 4, a := t1 } = some (f2, t2)) := h2
  have H3 : Hid (yNew f2 { k := 6, a := t2, b := t1 } = some (f3, t3)) := h3
  have H4 : Hid (yWant n R f3 fx e1 t3 = some f4) := h4
  have HT : Hid (Tx K q w0 D0 w D f fx) := h
  generalize hW : w.alloc (.cells #[.int .i64 kk, .int .i64 nu, .int .i64 bi, .int .i64 e1, .int .i64 e2, .int .i64 e3, .slice fa fl fc, .slice aa al ac] 162) = W
  have HFW : Hid (Fr (fun _ => False) w W) := by rw [← hW]; exact (Fr.refl _ w).alloc _
  have hbl : W.heap[w.heap.size]? = some (.cells #[.int .i64 kk, .int .i64 nu, .int .i64 bi, .int .i64 e1, .int .i64 e2, .int .i64 e3, .slice fa fl fc, .slice aa al ac] 162 (0, 0)) := by rw [← hW]; exact blk_new w _
  have HX0 : Hid (Tx K q W D W D f fx) := Tx.start (h.1.fr HFW.out)
  have hn := h.1.loc (Nat.le_refl _)
  have HL : Hid (∀ w' D' f' fx', Tx K q W D w' D' f' fx' → w'.heap[w.heap.size]? = some (.cells #[.int .i64 kk, .int .i64 nu, .int .i64 bi, .int .i64 e1, .int .i64 e2, .int .i64 e3, .slice fa fl fc, .slice aa al ac] 162 (0, 0))) := fun _ _ _ _ hx => hx.blk hn hbl
  obtain ⟨m0, m1, m2, m3, m4, m5, m6, m7⟩ := cells8 hbl
  have hl0 := blk_lt hbl
  have hq0 := HX0.out.1.lt
  clear h hbl hn h1 h2 h3 h4
  go_enter Tryz.func180, Tryz.ntmps180
  go_wp2_with fail
  refine (HX0.out.unknown H1.out).mono ?_
  rintro r1 w1 ⟨rfl, D1, hX1⟩
  have HX1 : Hid (Tx K q W D w1 D1 f1 fx) := hX1
  have hb1 := HL.out _ _ _ _ hX1
  have hq1 := hX1.1.lt
  have hl1 := blk_lt hb1
  clear m0 m1 m2 m3 m4 m5 m6 m7 hX1 HX0 hq0 hl0 hW
  obtain ⟨m0, m1, m2, m3, m4, m5, m6, m7⟩ := cells8 hb1
  clear hb1
  go_wp2_with fail
  refine (HX1.out.cont H2.out).mono ?_
  rintro r2 w2 ⟨rfl, D2, hX2⟩
  have HX2 : Hid (Tx K q W D w2 D2 f2 fx) := hX2
  have hb2 := HL.out _ _ _ _ hX2
  have hq2 := hX2.1.lt
  have hl2 := blk_lt hb2
  clear m0 m1 m2 m3 m4 m5 m6 m7 hX2 HX1 hq1 hl1
  obtain ⟨m0, m1, m2, m3, m4, m5, m6, m7⟩ := cells8 hb2
  clear hb2
  go_wp2_with fail
  refine (HX2.out.function H3.out).mono ?_
  rintro r3 w3 ⟨rfl, D3, hX3⟩
  have HX3 : Hid (Tx K q W D w3 D3 f3 fx) := hX3
  have hb3 := HL.out _ _ _ _ hX3
  have hq3 := hX3.1.lt
  have hl3 := blk_lt hb3
  clear m0 m1 m2 m3 m4 m5 m6 m7 hX3 HX2 hq2 hl2
  obtain ⟨m0, m1, m2, m3, m4, m5, m6, m7⟩ := cells8 hb3
  clear hb3
  go_wp2_with fail
  refine (HX3.out.want ih H4.out).mono ?_
  rintro r4 w4 ⟨rfl, D4, hX4⟩
  have HX4 : Hid (Tx K q W D w4 D4 f4 fx) := hX4
  have hb4 := HL.out _ _ _ _ hX4
  have hq4 := hX4.1.lt
  have hl4 := blk_lt hb4
  clear m0 m1 m2 m3 m4 m5 m6 m7 hX4 HX3 hq3 hl3
  obtain ⟨m0, m1, m2, m3, m4, m5, m6, m7⟩ := cells8 hb4
  clear hb4
  go_wp2_with fail
  go_ret
  exact ⟨rfl, ((HT.out.fr HFW.out).go HX4.out.n).imp fun _ h => h.1⟩

set_option maxHeartbeats 1000000 in
set_option maxRecDepth 100000 in
theorem Tx.throwE (h : Tx K q w0 D0 w D f fx) (ih : TIh K q R) {f1 : FX} {t1 : Int} (h1 : R f fx e1 = some (f1, t1)) {f2 : FX} {t2 : Int} (h2 : R f1 fx e2 = some (f2, t2)) {f3 : FX} {t3 : Int} (h3 : yNew f2 { k := 4, a := t2 } = some (f3, t3)) {f4 : FX} (h4 : ySame n f3 t1 t3 = some f4) {f5 : FX} {t5 : Int} (h5 : yNew f4 {} = some (f5, t5)) (kk nu bi e3 : Int) (fa aa : Option Addr) (fl fc al ac : Nat) :
    Calls Tryz.prog 181 #[.pointer (some ⟨q, 0, none⟩), .agg #[.int .i64 kk, .int .i64 nu, .int .i64 bi, .int .i64 e1, .int .i64 e2, .int .i64 e3, .slice fa fl fc, .slice aa al ac]] w (TR K q w0 D0 (.int .i32 t5) f5 fx) := by
  have H1 : Hid (R f fx e1 = some (f1, t1)) := h1
  have H2 : Hid (R f1 fx e2 = some (f2, t2)) := h2
  have H3 : Hid (yNew f2 { k := 4, a := t2 } = some (f3, t3)) := h3
  have H4 : Hid (ySame n f3 t1 t3 = some f4) := h4
  have H5 : Hid (yNew f4 {} = some (f5, t5)) := h5
  have HT : Hid (Tx K q w0 D0 w D f fx) := h
  generalize hW : w.alloc (.cells #[.int .i64 kk, .int .i64 nu, .int .i64 bi, .int .i64 e1, .int .i64 e2, .int .i64 e3, .slice fa fl fc, .slice aa al ac] 162) = W
  have HFW : Hid (Fr (fun _ => False) w W) := by rw [← hW]; exact (Fr.refl _ w).alloc _
  have hbl : W.heap[w.heap.size]? = some (.cells #[.int .i64 kk, .int .i64 nu, .int .i64 bi, .int .i64 e1, .int .i64 e2, .int .i64 e3, .slice fa fl fc, .slice aa al ac] 162 (0, 0)) := by rw [← hW]; exact blk_new w _
  have HX0 : Hid (Tx K q W D W D f fx) := Tx.start (h.1.fr HFW.out)
  have hn := h.1.loc (Nat.le_refl _)
  have HL : Hid (∀ w' D' f' fx', Tx K q W D w' D' f' fx' → w'.heap[w.heap.size]? = some (.cells #[.int .i64 kk, .int .i64 nu, .int .i64 bi, .int .i64 e1, .int .i64 e2, .int .i64 e3, .slice fa fl fc, .slice aa al ac] 162 (0, 0))) := fun _ _ _ _ hx => hx.blk hn hbl
  obtain ⟨m0, m1, m2, m3, m4, m5, m6, m7⟩ := cells8 hbl
  have hl0 := blk_lt hbl
  have hq0 := HX0.out.1.lt
  clear h hbl hn h1 h2 h3 h4 h5
  go_enter Tryz.func181, Tryz.ntmps181
  go_wp2_with fail
  refine (HX0.out.exp ih H1.out).mono ?_
  rintro r1 w1 ⟨rfl, D1, hX1⟩
  have HX1 : Hid (Tx K q W D w1 D1 f1 fx) := hX1
  have hb1 := HL.out _ _ _ _ hX1
  have hq1 := hX1.1.lt
  have hl1 := blk_lt hb1
  clear m0 m1 m2 m3 m4 m5 m6 m7 hX1 HX0 hq0 hl0 hW
  obtain ⟨m0, m1, m2, m3, m4, m5, m6, m7⟩ := cells8 hb1
  clear hb1
  go_wp2_with fail
  refine (HX1.out.exp ih H2.out).mono ?_
  rintro r2 w2 ⟨rfl, D2, hX2⟩
  have HX2 : Hid (Tx K q W D w2 D2 f2 fx) := hX2
  have hb2 := HL.out _ _ _ _ hX2
  have hq2 := hX2.1.lt
  have hl2 := blk_lt hb2
  clear m0 m1 m2 m3 m4 m5 m6 m7 hX2 HX1 hq1 hl1
  obtain ⟨m0, m1, m2, m3, m4, m5, m6, m7⟩ := cells8 hb2
  clear hb2
  go_wp2_with fail
  refine (HX2.out.cont H3.out).mono ?_
  rintro r3 w3 ⟨rfl, D3, hX3⟩
  have HX3 : Hid (Tx K q W D w3 D3 f3 fx) := hX3
  have hb3 := HL.out _ _ _ _ hX3
  have hq3 := hX3.1.lt
  have hl3 := blk_lt hb3
  clear m0 m1 m2 m3 m4 m5 m6 m7 hX3 HX2 hq2 hl2
  obtain ⟨m0, m1, m2, m3, m4, m5, m6, m7⟩ := cells8 hb3
  clear hb3
  go_wp2_with fail
  refine (HX3.out.same H4.out).mono ?_
  rintro r4 w4 ⟨rfl, D4, hX4⟩
  have HX4 : Hid (Tx K q W D w4 D4 f4 fx) := hX4
  have hb4 := HL.out _ _ _ _ hX4
  have hq4 := hX4.1.lt
  have hl4 := blk_lt hb4
  clear m0 m1 m2 m3 m4 m5 m6 m7 hX4 HX3 hq3 hl3
  obtain ⟨m0, m1, m2, m3, m4, m5, m6, m7⟩ := cells8 hb4
  clear hb4
  go_wp2_with fail
  refine (HX4.out.unknown H5.out).mono ?_
  rintro r5 w5 ⟨rfl, D5, hX5⟩
  have HX5 : Hid (Tx K q W D w5 D5 f5 fx) := hX5
  have hb5 := HL.out _ _ _ _ hX5
  have hq5 := hX5.1.lt
  have hl5 := blk_lt hb5
  clear m0 m1 m2 m3 m4 m5 m6 m7 hX5 HX4 hq4 hl4
  obtain ⟨m0, m1, m2, m3, m4, m5, m6, m7⟩ := cells8 hb5
  clear hb5
  go_wp2_with fail
  go_ret
  exact ⟨rfl, ((HT.out.fr HFW.out).go HX5.out.n).imp fun _ h => h.1⟩

end
end Go.Proofs.YtklimomeendajaaGreatDoor

/- The forms of expressions, more (made by tools/mk_ty.py). -/
namespace Go.Proofs.YtklimomeendajaaGreatDoor
open Go.RowKit

section
variable {K : TC} {q : Nat} {w w0 : World} {f : FX} {fx : List Int} {D D0 : TD} {R : FX → List Int → Int → Option (FX × Int)} {n : Nat} {e1 e2 e3 bi : Int}

set_option maxHeartbeats 1000000 in
set_option maxRecDepth 100000 in
theorem Tx.choiceE (h : Tx K q w0 D0 w D f fx) (ih : TIh K q R) {f1 : FX} (h1 : yWant n R f fx e1 1 = some f1) {f2 : FX} {t2 : Int} (h2 : R f1 fx e2 = some (f2, t2)) {f3 : FX} (h3 : yWant n R f2 fx e3 t2 = some f3) (kk nu : Int) (fa aa : Option Addr) (fl fc al ac : Nat) :
    Calls Tryz.prog 177 #[.pointer (some ⟨q, 0, none⟩), .agg #[.int .i64 kk, .int .i64 nu, .int .i64 bi, .int .i64 e1, .int .i64 e2, .int .i64 e3, .slice fa fl fc, .slice aa al ac]] w (TR K q w0 D0 (.int .i32 t2) f3 fx) := by
  have H1 : Hid (yWant n R f fx e1 1 = some f1) := h1
  have H2 : Hid (R f1 fx e2 = some (f2, t2)) := h2
  have H3 : Hid (yWant n R f2 fx e3 t2 = some f3) := h3
  have HT : Hid (Tx K q w0 D0 w D f fx) := h
  generalize hW : w.alloc (.cells #[.int .i64 kk, .int .i64 nu, .int .i64 bi, .int .i64 e1, .int .i64 e2, .int .i64 e3, .slice fa fl fc, .slice aa al ac] 162) = W
  have HFW : Hid (Fr (fun _ => False) w W) := by rw [← hW]; exact (Fr.refl _ w).alloc _
  have hbl : W.heap[w.heap.size]? = some (.cells #[.int .i64 kk, .int .i64 nu, .int .i64 bi, .int .i64 e1, .int .i64 e2, .int .i64 e3, .slice fa fl fc, .slice aa al ac] 162 (0, 0)) := by rw [← hW]; exact blk_new w _
  have HX0 : Hid (Tx K q W D W D f fx) := Tx.start (h.1.fr HFW.out)
  have hn := h.1.loc (Nat.le_refl _)
  have HL : Hid (∀ w' D' f' fx', Tx K q W D w' D' f' fx' → w'.heap[w.heap.size]? = some (.cells #[.int .i64 kk, .int .i64 nu, .int .i64 bi, .int .i64 e1, .int .i64 e2, .int .i64 e3, .slice fa fl fc, .slice aa al ac] 162 (0, 0))) := fun _ _ _ _ hx => hx.blk hn hbl
  obtain ⟨m0, m1, m2, m3, m4, m5, m6, m7⟩ := cells8 hbl
  have hl0 := blk_lt hbl
  have hq0 := HX0.out.1.lt
  clear h hbl hn h1 h2 h3
  go_enter Tryz.func177, Tryz.ntmps177
  go_wp2_with fail
  refine (HX0.out.want ih H1.out).mono ?_
  rintro r1 w1 ⟨rfl, D1, hX1⟩
  have HX1 : Hid (Tx K q W D w1 D1 f1 fx) := hX1
  have hb1 := HL.out _ _ _ _ hX1
  have hq1 := hX1.1.lt
  have hl1 := blk_lt hb1
  clear m0 m1 m2 m3 m4 m5 m6 m7 hX1 HX0 hq0 hl0 hW
  obtain ⟨m0, m1, m2, m3, m4, m5, m6, m7⟩ := cells8 hb1
  clear hb1
  go_wp2_with fail
  refine (HX1.out.exp ih H2.out).mono ?_
  rintro r2 w2 ⟨rfl, D2, hX2⟩
  have HX2 : Hid (Tx K q W D w2 D2 f2 fx) := hX2
  have hb2 := HL.out _ _ _ _ hX2
  have hq2 := hX2.1.lt
  have hl2 := blk_lt hb2
  clear m0 m1 m2 m3 m4 m5 m6 m7 hX2 HX1 hq1 hl1
  obtain ⟨m0, m1, m2, m3, m4, m5, m6, m7⟩ := cells8 hb2
  clear hb2
  go_wp2_with fail
  refine (HX2.out.want ih H3.out).mono ?_
  rintro r3 w3 ⟨rfl, D3, hX3⟩
  have HX3 : Hid (Tx K q W D w3 D3 f3 fx) := hX3
  have hb3 := HL.out _ _ _ _ hX3
  have hq3 := hX3.1.lt
  have hl3 := blk_lt hb3
  clear m0 m1 m2 m3 m4 m5 m6 m7 hX3 HX2 hq2 hl2
  obtain ⟨m0, m1, m2, m3, m4, m5, m6, m7⟩ := cells8 hb3
  clear hb3
  go_wp2_with fail
  go_ret
  exact ⟨rfl, ((HT.out.fr HFW.out).go HX3.out.n).imp fun _ h => h.1⟩

set_option maxHeartbeats 1000000 in
set_option maxRecDepth 100000 in
theorem Tx.fnE (h : Tx K q w0 D0 w D f fx) (ih : TIh K q R) {f1 : FX} {t1 : Int} (h1 : yNew f {} = some (f1, t1)) {f2 : FX} {t2 : Int} (h2 : yWithin R f1 fx bi t1 e1 = some (f2, t2)) {f3 : FX} {t3 : Int} (h3 : yNew f2 { k := 6, a := t1, b := t2 } = some (f3, t3)) (kk nu : Int) (fa aa : Option Addr) (fl fc al ac : Nat) :
    Calls Tryz.prog 176 #[.pointer (some ⟨q, 0, none⟩), .agg #[.int .i64 kk, .int .i64 nu, .int .i64 bi, .int .i64 e1, .int .i64 e2, .int .i64 e3, .slice fa fl fc, .slice aa al ac]] w (TR K q w0 D0 (.int .i32 t3) f3 fx) := by
  have H1 : Hid (yNew f {} = some (f1, t1)) := h1
  have H2 : Hid (yWithin R f1 fx bi t1 e1 = some (f2, t2)) := h2
  have H3 : Hid (yNew f2 { k := 6, a := t1, b := t2 } = some (f3, t3)) := h3
  have HT : Hid (Tx K q w0 D0 w D f fx) := h
  generalize hW : w.alloc (.cells #[.int .i64 kk, .int .i64 nu, .int .i64 bi, .int .i64 e1, .int .i64 e2, .int .i64 e3, .slice fa fl fc, .slice aa al ac] 162) = W
  have HFW : Hid (Fr (fun _ => False) w W) := by rw [← hW]; exact (Fr.refl _ w).alloc _
  have hbl : W.heap[w.heap.size]? = some (.cells #[.int .i64 kk, .int .i64 nu, .int .i64 bi, .int .i64 e1, .int .i64 e2, .int .i64 e3, .slice fa fl fc, .slice aa al ac] 162 (0, 0)) := by rw [← hW]; exact blk_new w _
  have HX0 : Hid (Tx K q W D W D f fx) := Tx.start (h.1.fr HFW.out)
  have hn := h.1.loc (Nat.le_refl _)
  have HL : Hid (∀ w' D' f' fx', Tx K q W D w' D' f' fx' → w'.heap[w.heap.size]? = some (.cells #[.int .i64 kk, .int .i64 nu, .int .i64 bi, .int .i64 e1, .int .i64 e2, .int .i64 e3, .slice fa fl fc, .slice aa al ac] 162 (0, 0))) := fun _ _ _ _ hx => hx.blk hn hbl
  obtain ⟨m0, m1, m2, m3, m4, m5, m6, m7⟩ := cells8 hbl
  have hl0 := blk_lt hbl
  have hq0 := HX0.out.1.lt
  clear h hbl hn h1 h2 h3
  go_enter Tryz.func176, Tryz.ntmps176
  go_wp2_with fail
  refine (HX0.out.unknown H1.out).mono ?_
  rintro r1 w1 ⟨rfl, D1, hX1⟩
  have HX1 : Hid (Tx K q W D w1 D1 f1 fx) := hX1
  have hb1 := HL.out _ _ _ _ hX1
  have hq1 := hX1.1.lt
  have hl1 := blk_lt hb1
  clear m0 m1 m2 m3 m4 m5 m6 m7 hX1 HX0 hq0 hl0 hW
  obtain ⟨m0, m1, m2, m3, m4, m5, m6, m7⟩ := cells8 hb1
  clear hb1
  go_wp2_with fail
  refine (HX1.out.within ih H2.out).mono ?_
  rintro r2 w2 ⟨rfl, D2, hX2⟩
  have HX2 : Hid (Tx K q W D w2 D2 f2 fx) := hX2
  have hb2 := HL.out _ _ _ _ hX2
  have hq2 := hX2.1.lt
  have hl2 := blk_lt hb2
  clear m0 m1 m2 m3 m4 m5 m6 m7 hX2 HX1 hq1 hl1
  obtain ⟨m0, m1, m2, m3, m4, m5, m6, m7⟩ := cells8 hb2
  clear hb2
  go_wp2_with fail
  refine (HX2.out.function H3.out).mono ?_
  rintro r3 w3 ⟨rfl, D3, hX3⟩
  have HX3 : Hid (Tx K q W D w3 D3 f3 fx) := hX3
  have hb3 := HL.out _ _ _ _ hX3
  have hq3 := hX3.1.lt
  have hl3 := blk_lt hb3
  clear m0 m1 m2 m3 m4 m5 m6 m7 hX3 HX2 hq2 hl2
  obtain ⟨m0, m1, m2, m3, m4, m5, m6, m7⟩ := cells8 hb3
  clear hb3
  go_wp2_with fail
  go_ret
  exact ⟨rfl, ((HT.out.fr HFW.out).go HX3.out.n).imp fun _ h => h.1⟩

set_option maxHeartbeats 1000000 in
set_option maxRecDepth 100000 in
theorem Tx.tryE (h : Tx K q w0 D0 w D f fx) (ih : TIh K q R) {f1 : FX} {t1 : Int} (h1 : R f fx e1 = some (f1, t1)) {f2 : FX} {t2 : Int} (h2 : yWithin R f1 fx bi 0 e2 = some (f2, t2)) {f3 : FX} (h3 : ySame n f2 t1 t2 = some f3) (kk nu : Int) (fa aa : Option Addr) (fl fc al ac : Nat) :
    Calls Tryz.prog 179 #[.pointer (some ⟨q, 0, none⟩), .agg #[.int .i64 kk, .int .i64 nu, .int .i64 bi, .int .i64 e1, .int .i64 e2, .int .i64 e3, .slice fa fl fc, .slice aa al ac]] w (TR K q w0 D0 (.int .i32 t1) f3 fx) := by
  have H1 : Hid (R f fx e1 = some (f1, t1)) := h1
  have H2 : Hid (yWithin R f1 fx bi 0 e2 = some (f2, t2)) := h2
  have H3 : Hid (ySame n f2 t1 t2 = some f3) := h3
  have HT : Hid (Tx K q w0 D0 w D f fx) := h
  generalize hW : w.alloc (.cells #[.int .i64 kk, .int .i64 nu, .int .i64 bi, .int .i64 e1, .int .i64 e2, .int .i64 e3, .slice fa fl fc, .slice aa al ac] 162) = W
  have HFW : Hid (Fr (fun _ => False) w W) := by rw [← hW]; exact (Fr.refl _ w).alloc _
  have hbl : W.heap[w.heap.size]? = some (.cells #[.int .i64 kk, .int .i64 nu, .int .i64 bi, .int .i64 e1, .int .i64 e2, .int .i64 e3, .slice fa fl fc, .slice aa al ac] 162 (0, 0)) := by rw [← hW]; exact blk_new w _
  have HX0 : Hid (Tx K q W D W D f fx) := Tx.start (h.1.fr HFW.out)
  have hn := h.1.loc (Nat.le_refl _)
  have HL : Hid (∀ w' D' f' fx', Tx K q W D w' D' f' fx' → w'.heap[w.heap.size]? = some (.cells #[.int .i64 kk, .int .i64 nu, .int .i64 bi, .int .i64 e1, .int .i64 e2, .int .i64 e3, .slice fa fl fc, .slice aa al ac] 162 (0, 0))) := fun _ _ _ _ hx => hx.blk hn hbl
  obtain ⟨m0, m1, m2, m3, m4, m5, m6, m7⟩ := cells8 hbl
  have hl0 := blk_lt hbl
  have hq0 := HX0.out.1.lt
  clear h hbl hn h1 h2 h3
  go_enter Tryz.func179, Tryz.ntmps179
  go_wp2_with fail
  refine (HX0.out.exp ih H1.out).mono ?_
  rintro r1 w1 ⟨rfl, D1, hX1⟩
  have HX1 : Hid (Tx K q W D w1 D1 f1 fx) := hX1
  have hb1 := HL.out _ _ _ _ hX1
  have hq1 := hX1.1.lt
  have hl1 := blk_lt hb1
  clear m0 m1 m2 m3 m4 m5 m6 m7 hX1 HX0 hq0 hl0 hW
  obtain ⟨m0, m1, m2, m3, m4, m5, m6, m7⟩ := cells8 hb1
  clear hb1
  go_wp2_with fail
  refine (HX1.out.within ih H2.out).mono ?_
  rintro r2 w2 ⟨rfl, D2, hX2⟩
  have HX2 : Hid (Tx K q W D w2 D2 f2 fx) := hX2
  have hb2 := HL.out _ _ _ _ hX2
  have hq2 := hX2.1.lt
  have hl2 := blk_lt hb2
  clear m0 m1 m2 m3 m4 m5 m6 m7 hX2 HX1 hq1 hl1
  obtain ⟨m0, m1, m2, m3, m4, m5, m6, m7⟩ := cells8 hb2
  clear hb2
  go_wp2_with fail
  refine (HX2.out.same H3.out).mono ?_
  rintro r3 w3 ⟨rfl, D3, hX3⟩
  have HX3 : Hid (Tx K q W D w3 D3 f3 fx) := hX3
  have hb3 := HL.out _ _ _ _ hX3
  have hq3 := hX3.1.lt
  have hl3 := blk_lt hb3
  clear m0 m1 m2 m3 m4 m5 m6 m7 hX3 HX2 hq2 hl2
  obtain ⟨m0, m1, m2, m3, m4, m5, m6, m7⟩ := cells8 hb3
  clear hb3
  go_wp2_with fail
  go_ret
  exact ⟨rfl, ((HT.out.fr HFW.out).go HX3.out.n).imp fun _ h => h.1⟩

end
end Go.Proofs.YtklimomeendajaaGreatDoor

/- let. -/
namespace Go.Proofs.YtklimomeendajaaGreatDoor
open Go.RowKit

section
variable {K : TC} {q : Nat} {w w0 : World} {f : FX} {fx : List Int} {D D0 : TD} {R : FX → List Int → Int → Option (FX × Int)} {n : Nat} {e1 e2 bi : Int}

set_option maxHeartbeats 1000000 in
set_option maxRecDepth 100000 in
theorem Tx.letE (h : Tx K q w0 D0 w D f fx) (ih : TIh K q R) {f1 : FX} {t1 : Int} (h1 : R f fx e1 = some (f1, t1)) (hv : yVal K.t n e1 = some false) {x : FX × Int} (h2 : yWithin R f1 fx bi t1 e2 = some x) (kk nu e3 : Int) (fa aa : Option Addr) (fl fc al ac : Nat) :
    Calls Tryz.prog 174 #[.pointer (some ⟨q, 0, none⟩), .agg #[.int .i64 kk, .int .i64 nu, .int .i64 bi, .int .i64 e1, .int .i64 e2, .int .i64 e3, .slice fa fl fc, .slice aa al ac]] w (TR K q w0 D0 (.int .i32 x.2) x.1 fx) := by
  have H1 : Hid (R f fx e1 = some (f1, t1)) := h1
  have HV : Hid (VCt K q e1 false) := val_all n e1 false hv
  have H2 : Hid (yWithin R f1 fx bi t1 e2 = some x) := h2
  have HT : Hid (Tx K q w0 D0 w D f fx) := h
  generalize hW : w.alloc (.cells #[.int .i64 kk, .int .i64 nu, .int .i64 bi, .int .i64 e1, .int .i64 e2, .int .i64 e3, .slice fa fl fc, .slice aa al ac] 162) = W
  have HFW : Hid (Fr (fun _ => False) w W) := by rw [← hW]; exact (Fr.refl _ w).alloc _
  have hbl : W.heap[w.heap.size]? = some (.cells #[.int .i64 kk, .int .i64 nu, .int .i64 bi, .int .i64 e1, .int .i64 e2, .int .i64 e3, .slice fa fl fc, .slice aa al ac] 162 (0, 0)) := by rw [← hW]; exact blk_new w _
  have HX0 : Hid (Tx K q W D W D f fx) := Tx.start (h.1.fr HFW.out)
  have hn := h.1.loc (Nat.le_refl _)
  have HL : Hid (∀ w' D' f' fx', Tx K q W D w' D' f' fx' → w'.heap[w.heap.size]? = some (.cells #[.int .i64 kk, .int .i64 nu, .int .i64 bi, .int .i64 e1, .int .i64 e2, .int .i64 e3, .slice fa fl fc, .slice aa al ac] 162 (0, 0))) := fun _ _ _ _ hx => hx.blk hn hbl
  obtain ⟨m0, m1, m2, m3, m4, m5, m6, m7⟩ := cells8 hbl
  have hl0 := blk_lt hbl
  clear h hbl hn h1 h2 hv
  go_enter Tryz.func174, Tryz.ntmps174
  go_wp2_with fail
  refine (HX0.out.exp ih H1.out).mono ?_
  rintro r1 w1 ⟨rfl, D1, hX1⟩
  have HX1 : Hid (Tx K q W D w1 D1 f1 fx) := hX1
  have hb1 := HL.out _ _ _ _ hX1
  clear m0 m1 m2 m3 m4 m5 m6 m7 hX1 HX0 hW hl0
  obtain ⟨m0, m1, m2, m3, m4, m5, m6, m7⟩ := cells8 hb1
  have hl1 := blk_lt hb1
  clear hb1
  go_wp2_with fail
  refine (HV.out w1 f1 fx D1 HX1.out.1).mono ?_
  rintro r2 w2 ⟨rfl, hF2⟩
  have hX2 := HX1.out.fr hF2
  have HX2 : Hid (Tx K q W D w2 D1 f1 fx) := hX2
  have hb2 := HL.out _ _ _ _ hX2
  clear m0 m1 m2 m3 m4 m5 m6 m7 hX2 HX1 hF2 hl1
  obtain ⟨m0, m1, m2, m3, m4, m5, m6, m7⟩ := cells8 hb2
  have hl2 := blk_lt hb2
  clear hb2
  go_wp2_with fail
  refine (HX2.out.within ih H2.out).mono ?_
  rintro r3 w3 ⟨rfl, D3, hX3⟩
  have HX3 : Hid (Tx K q W D w3 D3 x.1 fx) := hX3
  clear hX3
  go_wp2_with fail
  go_ret
  exact ⟨rfl, ((HT.out.fr HFW.out).go HX3.out.n).imp fun _ h => h.1⟩

set_option maxHeartbeats 1000000 in
set_option maxRecDepth 100000 in
theorem Tx.letV (h : Tx K q w0 D0 w D f fx) (ih : TIh K q R) {f1 f2 f3 : FX} {t1 : Int} (h1 : R f fx e1 = some (f1, t1)) (hv : yVal K.t n e1 = some true) (h2 : yName f1 bi t1 = some f2) (h3 : yOpen n f2 fx bi = some f3) {x : FX × Int} (h4 : R f3 fx e2 = some x) (kk nu e3 : Int) (fa aa : Option Addr) (fl fc al ac : Nat) :
    Calls Tryz.prog 174 #[.pointer (some ⟨q, 0, none⟩), .agg #[.int .i64 kk, .int .i64 nu, .int .i64 bi, .int .i64 e1, .int .i64 e2, .int .i64 e3, .slice fa fl fc, .slice aa al ac]] w (TR K q w0 D0 (.int .i32 x.2) x.1 fx) := by
  have H1 : Hid (R f fx e1 = some (f1, t1)) := h1
  have HV : Hid (VCt K q e1 true) := val_all n e1 true hv
  obtain ⟨b, rfl, hbn, rfl⟩ := yName_some h2
  have H3 : Hid (yOpen n { f1 with nms := f1.nms.set b t1 } fx b = some f3) := h3
  have H4 : Hid (R f3 fx e2 = some x) := h4
  have HT : Hid (Tx K q w0 D0 w D f fx) := h
  generalize hW : w.alloc (.cells #[.int .i64 kk, .int .i64 nu, .int .i64 b, .int .i64 e1, .int .i64 e2, .int .i64 e3, .slice fa fl fc, .slice aa al ac] 162) = W
  have HFW : Hid (Fr (fun _ => False) w W) := by rw [← hW]; exact (Fr.refl _ w).alloc _
  have hbl : W.heap[w.heap.size]? = some (.cells #[.int .i64 kk, .int .i64 nu, .int .i64 b, .int .i64 e1, .int .i64 e2, .int .i64 e3, .slice fa fl fc, .slice aa al ac] 162 (0, 0)) := by rw [← hW]; exact blk_new w _
  have HX0 : Hid (Tx K q W D W D f fx) := Tx.start (h.1.fr HFW.out)
  have hn := h.1.loc (Nat.le_refl _)
  have HL : Hid (∀ w' D' f' fx', Tx K q W D w' D' f' fx' → w'.heap[w.heap.size]? = some (.cells #[.int .i64 kk, .int .i64 nu, .int .i64 b, .int .i64 e1, .int .i64 e2, .int .i64 e3, .slice fa fl fc, .slice aa al ac] 162 (0, 0))) := fun _ _ _ _ hx => hx.blk hn hbl
  obtain ⟨m0, m1, m2, m3, m4, m5, m6, m7⟩ := cells8 hbl
  have hl0 := blk_lt hbl
  clear h hbl hn h1 h2 hv h3 h4
  go_enter Tryz.func174, Tryz.ntmps174
  go_wp2_with fail
  refine (HX0.out.exp ih H1.out).mono ?_
  rintro r1 w1 ⟨rfl, D1, hX1⟩
  have HX1 : Hid (Tx K q W D w1 D1 f1 fx) := hX1
  have hb1 := HL.out _ _ _ _ hX1
  clear m0 m1 m2 m3 m4 m5 m6 m7 hX1 HX0 hW hl0
  obtain ⟨m0, m1, m2, m3, m4, m5, m6, m7⟩ := cells8 hb1
  have hl1 := blk_lt hb1
  clear hb1
  go_wp2_with fail
  refine (HV.out w1 f1 fx D1 HX1.out.1).mono ?_
  rintro r2 w2 ⟨rfl, hF2⟩
  have hX2 := HX1.out.fr hF2
  obtain ⟨g, cap, hNV, hg, cg, fg, hX3⟩ := hX2.name hbn t1
  have HX3 : Hid (Tx K q W D (w2.setCell ⟨g, b, none⟩ (.int .i32 t1)) D1 { f1 with nms := f1.nms.set b t1 } fx) := hX3
  obtain ⟨⟨-, -, -, -, c8, -, -⟩, -⟩ := hX2.1.cells
  rw [hNV] at c8
  have hq2 := hX2.1.lt
  have hnl := row_le hX2.1.n
  have hbc : (b : Int) < (f1.nms.length : Int) := by omega
  have hb2 := HL.out _ _ _ _ hX2
  have HB3 := HL.out _ _ _ _ hX3
  have HB3' : Hid _ := HB3
  clear m0 m1 m2 m3 m4 m5 m6 m7 hX2 HX1 hF2 hl1 hX3 HB3 hNV
  obtain ⟨m0, m1, m2, m3, m4, m5, m6, m7⟩ := cells8 hb2
  have hl2 := blk_lt hb2
  clear hb2
  go_wp2_with fail
  refine region_tail 8 mixed (by kernel_rfl) ?_
  simp only [List.take_succ_cons, List.take_zero, List.drop_succ_cons, List.drop_zero]
  repeat still_step
  refine wpStill_nil ?_
  clear m0 m1 m2 m3 m4 m5 m6 m7
  obtain ⟨m0, m1, m2, m3, m4, m5, m6, m7⟩ := cells8 HB3'.out
  go_wp2_with fail
  refine ((HX3.out.fr (by repeat (first | with_reducible exact Fr.refl _ _ | (with_reducible refine Fr.drew ?_) | (with_reducible refine Fr.drewN ?_ _) | (with_reducible refine Fr.alloc ?_ _) | ((with_reducible refine Fr.setCell ?_ ?_ _); rotate_left; first | exact .inl rfl | exact .inr (Nat.le_refl _) | exact .inl (Nat.le_refl _) | (focus (left; simp; done)) | (focus (left; simp; omega)) | (focus (left; omega)) | (focus (right; simp; done)) | (focus (right; simp; omega)) | (focus (right; omega))) | exact Fr.refl _ _))).open H3.out).mono ?_
  rintro r3 w3 ⟨rfl, D3, hX4⟩
  have HX4 : Hid (Tx K q W D w3 D3 f3 fx) := hX4
  have hb4 := HL.out _ _ _ _ hX4
  clear m0 m1 m2 m3 m4 m5 m6 m7 hX4 HX3 hl2 c8 hg cg fg
  obtain ⟨m0, m1, m2, m3, m4, m5, m6, m7⟩ := cells8 hb4
  have hl4 := blk_lt hb4
  clear hb4
  go_wp2_with fail
  refine (HX4.out.exp ih H4.out).mono ?_
  rintro r5 w5 ⟨rfl, D5, hX5⟩
  have HX5 : Hid (Tx K q W D w5 D5 x.1 fx) := hX5
  clear hX5
  go_wp2_with fail
  go_ret
  exact ⟨rfl, ((HT.out.fr HFW.out).go HX5.out.n).imp fun _ h => h.1⟩
end
end Go.Proofs.YtklimomeendajaaGreatDoor
