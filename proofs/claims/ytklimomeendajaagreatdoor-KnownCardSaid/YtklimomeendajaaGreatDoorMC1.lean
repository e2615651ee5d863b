import Derived.Deep.LoopGhost
import Derived.Test.YtklimomeendajaaGreatDoorMC0
set_option linter.unusedVariables false
set_option linter.unusedSimpArgs false
/- typing.Find. -/
namespace Go.Proofs.YtklimomeendajaaGreatDoor
open Go.RowKit

section
variable {K : TC} {q : Nat} {w w' w1 w2 w0 : World} {f f' : FX} {fx fx' nm : List Int} {D D' D0 : TD} {s' : SX}

/-- The names are put in place of what they were. -/
theorem Ty.names {v' : Value} (h : Ty K q w f fx D) (hF : Fr (fun _ => False) w w1) (hg : w1.grownBy w2 D.NV.ownBlock) (hr : w2.ownsRow K.b0 155 1 v' nm.length (tyC nm)) (hv : v'.ownBlock = D.NV.ownBlock ∨ v'.ownBlock = some w1.heap.size) :
    Ty K q (w2.setCell ⟨q, 8, none⟩ v') { f with nms := nm } fx { D with NV := v' } ∧ Fr (tow q D) w (w2.setCell ⟨q, 8, none⟩ v') := by
  have hsz := hF.size
  have h1 := h.fr hF
  have hF2 : Fr (fun b => D.NV.ownBlock = some b) w1 w2 := (Fr.refl _ w1).grown hg fun k hk => .inl hk
  have hF3 : Fr (fun b => b = q ∨ D.NV.ownBlock = some b) w1 (w2.setCell ⟨q, 8, none⟩ v') := (hF2.mono (fun _ h => .inl (.inr h))).setCell (.inl (.inl rfl)) _
  have hF2q : Fr (fun b => b = q) w2 (w2.setCell ⟨q, 8, none⟩ v') := (by repeat (first | with_reducible exact Fr.refl _ _ | (with_reducible refine Fr.drew ?_) | (with_reducible refine Fr.drewN ?_ _) | (with_reducible refine Fr.alloc ?_ _) | ((with_reducible refine Fr.setCell ?_ ?_ _); rotate_left; first | exact .inl rfl | exact .inr (Nat.le_refl _) | exact .inl (Nat.le_refl _) | (focus (left; simp; done)) | (focus (left; simp; omega)) | (focus (left; omega)) | (focus (right; simp; done)) | (focus (right; simp; omega)) | (focus (right; omega))) | exact Fr.refl _ _))
  have hnew : ∀ b, v'.ownBlock = some b → D.NV.ownBlock = some b ∨ w1.heap.size ≤ b := fun b hb => by
    rcases hv with h2 | h2
    · exact .inl (h2 ▸ hb)
    · rw [h2] at hb; cases hb; exact .inr (Nat.le_refl _)
  have hvs : ∀ b, v'.ownBlock = some b → ¬ sown q D.G D.bk b := fun b hb hs => by
    rcases hnew b hb with h2 | h2
    · exact h.ns b h2 hs
    · have := h1.so.own_lt b hs; omega
  obtain ⟨t1, t2⟩ := h1.tree hF3 fun b hb => by
    rcases hb with rfl | hb
    · exact h.new _ (.inl rfl)
    · exact (h.n.lt b hb).1
  have hS := (h1.so.frX hF2 (fun b hb hs => h.ns b hb hs)).oth (i := 8) (by decide) v'
  refine ⟨⟨by simpa [tyA] using hS, t1, h.old, t2, h.mo, rowKeep hF2q hr (fun b hb hq => by subst hq; exact hvs _ hb (.inl rfl)), rowKeep hF3 h1.x ?_, h.new, ?_, hvs, h.xs, h.ne, h.nb⟩, ?_⟩
  · intro b hb hx
    rcases hx with rfl | hx
    · exact h.xs _ hb (.inl rfl)
    · exact h.nx b hx hb
  · intro b hb hb'
    rcases hnew b hb with h2 | h2
    · exact h.nx b h2 hb'
    · have := (h1.x.lt b hb').2; omega
  · exact (hF.mono (fun _ h => h.elim)).trans hF3 (fun b hb => by rcases hb with rfl | hb; exact .inl (.inl (.inl rfl)); exact .inl (.inr (.inl hb)))

theorem cells11 {w : World} {l : Nat} {a b c d e f g h i j k : Value} {t : TypeId} (hb : w.heap[l]? = some (.cells #[a, b, c, d, e, f, g, h, i, j, k] t (0, 0))) :
    (w.cell? ⟨l, 0, none⟩ = some a ∧ w.cell? ⟨l, 1, none⟩ = some b ∧ w.cell? ⟨l, 2, none⟩ = some c ∧ w.cell? ⟨l, 3, none⟩ = some d ∧ w.cell? ⟨l, 4, none⟩ = some e ∧ w.cell? ⟨l, 5, none⟩ = some f ∧ w.cell? ⟨l, 6, none⟩ = some g ∧ w.cell? ⟨l, 7, none⟩ = some h ∧ w.cell? ⟨l, 8, none⟩ = some i ∧ w.cell? ⟨l, 9, none⟩ = some j ∧ w.cell? ⟨l, 10, none⟩ = some k) ∧ ∀ n, w.frozen? ⟨l, n, none⟩ = false := by
  simp [World.cell?, World.frozen?, hb]

/-- The store is carried to another place. -/
theorem So.move {f0 o0 : Nat} {ty0 : TypeId} {c0 : Array Value} {s : SX} {G : Value} {bk : List Nat} (h : So w f0 o0 ty0 c0 s G bk) {q o : Nat} {ty : TypeId} {c : Array Value} (hb : w.heap[q]? = some (.cells (ins3 c o G (.int .i64 (s.ns.length : Int)) (.int .i32 s.wk)) ty (0, 0))) (hc : o + 2 < c.size) (hn : ¬ (G.ownBlock = some q ∨ q ∈ bk)) : So w q o ty c s G bk :=
  ⟨hb, hc, h.row, fun e => hn (.inl e), h.n0, h.n1, h.nd, fun b hm => by
    obtain ⟨_, h2, h3⟩ := h.bf b hm
    exact ⟨fun e => hn (.inr (e ▸ hm)), h2, h3⟩, h.at_, h.sz, h.w0, h.w1⟩

theorem set11 {w : World} {q : Nat} {a b c d e f g h i j k : Value} {ty : TypeId} (hb : w.heap[q]? = some (.cells #[a, b, c, d, e, f, g, h, i, j, k] ty (0, 0))) (a' b' c' d' e' f' g' h' i' j' k' : Value) :
    (((((((((((w.setCell ⟨q, 0, none⟩ a').setCell ⟨q, 1, none⟩ b').setCell ⟨q, 2, none⟩ c').setCell ⟨q, 3, none⟩ d').setCell ⟨q, 4, none⟩ e').setCell ⟨q, 5, none⟩ f').setCell ⟨q, 6, none⟩ g').setCell ⟨q, 7, none⟩ h').setCell ⟨q, 8, none⟩ i').setCell ⟨q, 9, none⟩ j').setCell ⟨q, 10, none⟩ k').heap[q]? = some (.cells #[a', b', c', d', e', f', g', h', i', j', k'] ty (0, 0)) ∧
    Fr (fun b => b = q) w (((((((((((w.setCell ⟨q, 0, none⟩ a').setCell ⟨q, 1, none⟩ b').setCell ⟨q, 2, none⟩ c').setCell ⟨q, 3, none⟩ d').setCell ⟨q, 4, none⟩ e').setCell ⟨q, 5, none⟩ f').setCell ⟨q, 6, none⟩ g').setCell ⟨q, 7, none⟩ h').setCell ⟨q, 8, none⟩ i').setCell ⟨q, 9, none⟩ j').setCell ⟨q, 10, none⟩ k') := by
  constructor
  · have h0 := blk_set (i := 0) (v := a') (c' := #[a', b, c, d, e, f, g, h, i, j, k]) hb rfl
    have h1 := blk_set (i := 1) (v := b') (c' := #[a', b', c, d, e, f, g, h, i, j, k]) h0 rfl
    have h2 := blk_set (i := 2) (v := c') (c' := #[a', b', c', d, e, f, g, h, i, j, k]) h1 rfl
    have h3 := blk_set (i := 3) (v := d') (c' := #[a', b', c', d', e, f, g, h, i, j, k]) h2 rfl
    have h4 := blk_set (i := 4) (v := e') (c' := #[a', b', c', d', e', f, g, h, i, j, k]) h3 rfl
    have h5 := blk_set (i := 5) (v := f') (c' := #[a', b', c', d', e', f', g, h, i, j, k]) h4 rfl
    have h6 := blk_set (i := 6) (v := g') (c' := #[a', b', c', d', e', f', g', h, i, j, k]) h5 rfl
    have h7 := blk_set (i := 7) (v := h') (c' := #[a', b', c', d', e', f', g', h', i, j, k]) h6 rfl
    have h8 := blk_set (i := 8) (v := i') (c' := #[a', b', c', d', e', f', g', h', i', j, k]) h7 rfl
    have h9 := blk_set (i := 9) (v := j') (c' := #[a', b', c', d', e', f', g', h', i', j', k]) h8 rfl
    have h10 := blk_set (i := 10) (v := k') (c' := #[a', b', c', d', e', f', g', h', i', j', k']) h9 rfl
    exact h10
  · exact (by repeat (first | with_reducible exact Fr.refl _ _ | (with_reducible refine Fr.drew ?_) | (with_reducible refine Fr.drewN ?_ _) | (with_reducible refine Fr.alloc ?_ _) | ((with_reducible refine Fr.setCell ?_ ?_ _); rotate_left; first | exact .inl rfl | exact .inr (Nat.le_refl _) | exact .inl (Nat.le_refl _) | (focus (left; simp; done)) | (focus (left; simp; omega)) | (focus (left; omega)) | (focus (right; simp; done)) | (focus (right; simp; omega)) | (focus (right; omega))) | exact Fr.refl _ _))

theorem find_start {t : RS} {ms : List Int} {root : Int} {E P B MV : Value} {cE : List Value} {K : TC} {w w1 WF : World} {f0 Q : Nat} {ty0 : TypeId} {c0 : Array Value} {G : Value} {bk : List Nat} {tb : Obj} (hK : K = ⟨w.heap.size + 1, t, root, E, P, B, cE, MV, ms⟩) (ht : Tr w t E P B cE) (hm : w.ownsRow 0 3 1 MV ms.length (ms.map (.int .i64))) (hne : t.exps.length ≤ 200000) (hnb : t.bnds.length ≤ 200000)
    (hS : So w1 f0 0 ty0 c0 xNew G bk) (hF : Fr (fun _ => False) w w1) (hO : ∀ b, sown f0 G bk b → w.heap.size + 1 ≤ b) (hT0 : w1.heap[w.heap.size]? = some tb) (hQ : WF.heap[Q]? = some (.cells #[E, P, .int .i64 root, B, MV, G, .int .i64 2, .int .i32 0, .slice none 0 0, .slice none 0 0, .bool false] 154 (0, 0))) (hF2 : Fr (fun b => b = Q) w1 WF) (hQ1 : w.heap.size + 1 ≤ Q) (hQn : ¬ sown f0 G bk Q) :
    Ty K Q WF ⟨xNew, [], false⟩ [] ⟨G, bk, .slice none 0 0, .slice none 0 0⟩ ∧ WF.heap[w.heap.size]? = some tb ∧ Fr (fun _ => False) w WF := by
  have hFw : Fr (fun _ => False) w WF := hF.trans hF2 (fun b hb => by right; omega)
  have hS2 : So WF f0 0 ty0 c0 xNew G bk := hS.frX hF2 (fun b hb hs => by subst hb; exact hQn hs)
  have hq : ¬ (G.ownBlock = some Q ∨ Q ∈ bk) := fun h => hQn (by rcases h with h | h; exact .inr (.inl h); exact .inr (.inr h))
  have hk : ∀ b, b < w.heap.size → WF.heap[b]? = w.heap[b]? := fun b hb => hFw.block b hb id
  refine ⟨⟨hS2.move (by rw [hK]; exact hQ) (by simp [tyA]) hq, ?_, ?_, ?_, ?_, World.ownsRow_nil _ _ _ _, World.ownsRow_nil _ _ _ _, ?_, (fun b h => by cases h), (fun b h => by cases h), (fun b h => by cases h), ?_, ?_⟩, (hF2.block _ (blk_lt hT0) (by omega)).trans hT0, hFw⟩
  · rw [hK]; exact ht.keep fun b hb => hk b (ht.lt b hb)
  · rw [hK]; intro b hb; have := ht.lt b hb; show b < w.heap.size + 1; omega
  · rw [hK]; exact ownsRow_block hm fun b hb => hk b (hm.lt b hb).2
  · rw [hK]; intro b hb; have := (hm.lt b hb).2; show b < w.heap.size + 1; omega
  · rw [hK]
    rintro b (rfl | hb | hb)
    · exact hQ1
    · exact hO b (.inr (.inl hb))
    · exact hO b (.inr (.inr hb))
  · rw [hK]; exact hne
  · rw [hK]; exact hnb

set_option maxHeartbeats 4000000 in
set_option maxRecDepth 100000 in
theorem tfind_any (t : RS) (ms : List Int) (N : Nat) (root : Int) (o : Option (List UInt8)) (ho : yFind t ms N root = some o) (E P B MV : Value) (cE : List Value) (w : World) (ht : Tr w t E P B cE) (hm : w.ownsRow 0 3 1 MV ms.length (ms.map (.int .i64))) (hne : t.exps.length ≤ 200000) (hnb : t.bnds.length ≤ 200000) :
    Calls Tryz.prog 40 #[.agg #[E, P, .int .i64 root, B], MV] w fun e w' => Fr (fun _ => False) w w' ∧ e = .returned (.tuple #[.string (bz (o.getD [])), .bool o.isSome]) := by
  unfold yFind at ho
  obtain ⟨⟨f1, t1⟩, hx, ho⟩ := bindO ho
  have HO : Hid _ := ho
  obtain ⟨ea, ec, rfl⟩ := ownsRow_len ht.e
  obtain ⟨pa, pc, rfl⟩ := ownsRow_len ht.p
  obtain ⟨ba, bc, rfl⟩ := ownsRow_len ht.b
  obtain ⟨va, vc, rfl⟩ := ownsRow_len hm
  have HT : Hid (Tr w t (.slice ea t.exps.length ec) (.slice pa t.pats.length pc) (.slice ba t.bnds.length bc) cE) := ht
  have HMs : Hid (w.ownsRow 0 3 1 (.slice va ms.length vc) ms.length (ms.map (.int .i64))) := hm
  have HX : Hid (yExp t ms N N ⟨xNew, t.bnds.map fun _ => 0, false⟩ [] root = some (f1, t1)) := hx
  clear ho ht hm hx
  go_enter Tryz.func40, Tryz.ntmps40
  go_wp2_with fail
  go_region_law (rw [if_pos (by simp [Region.wanted])]; unfold Oper.wp; go_simp; go_at_call 72; refine (new_so _).mono ?_; rintro r1 w1 ⟨G, bk, f0, rfl, hS1, hF1, hO1⟩; obtain ⟨ga, gc, rfl⟩ := ownsRow_len hS1.row; have hT0 : w1.heap[w.heap.size]? = some (.cells #[.slice ea t.exps.length ec, .slice pa t.pats.length pc, .int .i64 root, .slice ba t.bnds.length bc] 74 (0, 0)) := (by first | exact (hF1.block w.heap.size (by simp) id).trans (blk_new w _) | exact (hF1.block w.heap.size (by simp; omega) id).trans ((Below.heap_alloc _ _ _ (by simp)).trans (blk_new w _))); obtain ⟨⟨x0, x1, x2, x3⟩, xz⟩ := cells4 hT0; have xl := blk_lt hT0; (try (have hQ0 := blk_new (w.alloc (.cells #[.slice ea t.exps.length ec, .slice pa t.pats.length pc, .int .i64 root, .slice ba t.bnds.length bc] 74)) (.cells #[.slice none 0 0, .slice none 0 0, .int .i64 0, .slice none 0 0, .slice none 0 0, .slice none 0 0, .int .i64 0, .int .i32 0, .slice none 0 0, .slice none 0 0, .bool false] 154); rw [show (w.alloc (.cells #[.slice ea t.exps.length ec, .slice pa t.pats.length pc, .int .i64 root, .slice ba t.bnds.length bc] 74)).heap.size = w.heap.size + 1 by simp] at hQ0; have hQ := (hF1.block (w.heap.size + 1) (by simp) id).trans hQ0; clear hQ0; obtain ⟨⟨y0, y1, y2, y3, y4, y5, y6, y7, y8, y9, y10⟩, yz⟩ := cells11 hQ; have yl := blk_lt hQ)))
  all_goals
    have hO' : ∀ b, sown f0 (.slice ga bk.length gc) bk b → w.heap.size + 1 ≤ b := fun b hb => by have := hO1 b hb; simp at this; omega
    have hFw : Fr (fun _ => False) w w1 := Fr.trans (O' := fun _ => False) (by repeat (first | with_reducible exact Fr.refl _ _ | (with_reducible refine Fr.drew ?_) | (with_reducible refine Fr.drewN ?_ _) | (with_reducible refine Fr.alloc ?_ _) | ((with_reducible refine Fr.setCell ?_ ?_ _); rotate_left; first | exact .inl rfl | exact .inr (Nat.le_refl _) | exact .inl (Nat.le_refl _) | (focus (left; simp; done)) | (focus (left; simp; omega)) | (focus (left; omega)) | (focus (right; simp; done)) | (focus (right; simp; omega)) | (focus (right; omega))) | exact Fr.refl _ _)) hF1 (fun _ h => h.elim)
    obtain ⟨K, hK⟩ : ∃ K : TC, K = ⟨w.heap.size + 1, t, root, .slice ea t.exps.length ec, .slice pa t.pats.length pc, .slice ba t.bnds.length bc, cE, .slice va ms.length vc, ms⟩ := ⟨_, rfl⟩
    first
    | (have h11 := set11 hQ (.slice ea t.exps.length ec) (.slice pa t.pats.length pc) (.int .i64 root) (.slice ba t.bnds.length bc) (.slice va ms.length vc) (.slice ga bk.length gc) (.int .i64 2) (.int .i32 0) (.slice none 0 0) (.slice none 0 0) (.bool false)
       have HTY := find_start (Q := w.heap.size + 1) hK HT.out HMs.out hne hnb hS1 hFw hO' hT0 h11.1 h11.2 (Nat.le_refl _) (fun h => by have := hO1 _ h; simp at this; omega)
       clear h11
       generalize ((((((((((w1.setCell ⟨w.heap.size + 1, 0, none⟩ (.slice ea t.exps.length ec)).setCell ⟨w.heap.size + 1, 1, none⟩ (.slice pa t.pats.length pc)).setCell ⟨w.heap.size + 1, 2, none⟩ (.int .i64 root)).setCell ⟨w.heap.size + 1, 3, none⟩ (.slice ba t.bnds.length bc)).setCell ⟨w.heap.size + 1, 4, none⟩ (.slice va ms.length vc)).setCell ⟨w.heap.size + 1, 5, none⟩ (.slice ga bk.length gc)).setCell ⟨w.heap.size + 1, 6, none⟩ (.int .i64 2)).setCell ⟨w.heap.size + 1, 7, none⟩ (.int .i32 0)).setCell ⟨w.heap.size + 1, 8, none⟩ (.slice none 0 0)).setCell ⟨w.heap.size + 1, 9, none⟩ (.slice none 0 0)).setCell ⟨w.heap.size + 1, 10, none⟩ (.bool false) = WF at HTY ⊢
       generalize w.heap.size + 1 = Q at HTY ⊢)
    | (have HTY := find_start (Q := w1.heap.size) hK HT.out HMs.out hne hnb hS1 hFw hO' hT0 (blk_new w1 (.cells #[.slice ea t.exps.length ec, .slice pa t.pats.length pc, .int .i64 root, .slice ba t.bnds.length bc, .slice va ms.length vc, .slice ga bk.length gc, .int .i64 2, .int .i32 0, .slice none 0 0, .slice none 0 0, .bool false] 154)) ((Fr.refl _ _).alloc _) (by have := blk_lt hT0; omega) (fun h => by have := hS1.own_lt _ h; omega)
       generalize w1.alloc (.cells #[.slice ea t.exps.length ec, .slice pa t.pats.length pc, .int .i64 root, .slice ba t.bnds.length bc, .slice va ms.length vc, .slice ga bk.length gc, .int .i64 2, .int .i32 0, .slice none 0 0, .slice none 0 0, .bool false] 154) = WF at HTY ⊢
       generalize w1.heap.size = Q at HTY ⊢)
  all_goals
    have HTY' : Hid _ := HTY
    obtain ⟨hTy, hTb, hFF⟩ := HTY
    have HTy : Hid (Ty K Q WF ⟨xNew, [], false⟩ [] ⟨.slice ga bk.length gc, bk, .slice none 0 0, .slice none 0 0⟩) := hTy
    have HTb : Hid (WF.heap[w.heap.size]? = some (.cells #[.slice ea t.exps.length ec, .slice pa t.pats.length pc, .int .i64 root, .slice ba t.bnds.length bc] 74 (0, 0))) := hTb
    have HFF : Hid (Fr (fun _ => False) w WF) := hFF
    have HK : Hid (K.t = t ∧ K.ms = ms ∧ w.heap.size < K.b0) := by rw [hK]; exact ⟨rfl, rfl, Nat.lt_succ_self _⟩
    clear hTy hTb hFF HTY' hK hO' hFw hS1 hF1 hO1 hT0 x0 x1 x2 x3 xz xl
    (try clear hQ y0 y1 y2 y3 y4 y5 y6 y7 y8 y9 y10 yz yl)
    go_wp2_with fail
    go_loopg [7] t.bnds.length (fun k iv wr => ∃ (j : Nat) (Dk : TD), iv = .int .i64 j ∧ j ≤ t.bnds.length ∧ k = t.bnds.length - j ∧ Ty K Q wr ⟨xNew, List.replicate j 0, false⟩ [] Dk ∧ wr.heap[w.heap.size]? = some (.cells #[.slice ea t.exps.length ec, .slice pa t.pats.length pc, .int .i64 root, .slice ba t.bnds.length bc] 74 (0, 0)) ∧ Fr (fun _ => False) w wr)
    case atStart => exact ⟨0, _, rfl, Nat.zero_le _, rfl, HTy.out, HTb.out, HFF.out⟩
    case round =>
      obtain ⟨j, Dk, rfl, hj, hk, hTy, hTb, hFF⟩ := hrel
      have HM : Hid (gk = t.bnds.length - j) := hk
      clear hk HTy HTb HFF
      have HTy : Hid (Ty K Q wr ⟨xNew, List.replicate j 0, false⟩ [] Dk) := hTy
      have HTb : Hid (wr.heap[w.heap.size]? = some (.cells #[.slice ea t.exps.length ec, .slice pa t.pats.length pc, .int .i64 root, .slice ba t.bnds.length bc] 74 (0, 0))) := hTb
      have HFF : Hid (Fr (fun _ => False) w wr) := hFF
      obtain ⟨⟨m0, m1, m2, m3⟩, -⟩ := cells4 hTb
      have hl := blk_lt hTb
      obtain ⟨⟨-, -, -, -, c8, -, -⟩, hfz⟩ := hTy.cells
      have f8 := hfz 8
      have hq := hTy.lt
      clear hTb hFF hfz
      by_cases hjl : j < t.bnds.length
      · obtain ⟨na, nc, hNV⟩ := ownsRow_len hTy.n
        rw [hNV] at c8
        have hrow := hTy.n
        rw [hNV] at hrow
        simp only [List.length_replicate] at hrow c8
        have hR2 := hrow.alloc (.cells #[.int .i32 0] 155)
        have HNV : Hid (Dk.NV = .slice na j nc) := by show Dk.NV = _; rw [hNV]; simp
        have HNq : Hid (∀ b, (Value.slice na j nc).ownBlock = some b → b ≠ Q) := fun b hb e => hTy.ns b (by rw [HNV.out]; exact hb) (.inl e)
        have hb0 : K.b0 ≤ wr.heap.size := by have := hTy.new Q (.inl rfl); omega
        clear hTy hNV
        go_wp2_with (at_builtin; refine wpList_app slTy rfl (.tmp 21) (.tmp 22) rfl K.b0 j (tyC (List.replicate j 0)) _ rfl hR2 ⟨wr.heap.size, 0, none⟩ 1 1 [.int .i32 0] rfl rfl ?c1 ?c2 (by decide) ?b1 ?b2 ?b3 ?grow)
        case c1 => intro i v hi; exact cells_new _ rfl hi
        case c2 => intro v hv; simp at hv; rcases hv with rfl; rfl
        case b1 => unfold maxLen; omega
        case b2 => omega
        case b3 => simp; omega
        case grow =>
          intro v' w3 hown hgrow hv g' cap' hfm
          subst hfm
          have hb3 : w3.heap[Q]? = wr.heap[Q]? := (hgrow.block Q (by simp; omega) (fun e => HNq.out Q e.symm rfl)).trans (Below.heap_alloc _ _ _ hq)
          have k8 := World.cell?_of_block (w := wr) (a := ⟨Q, 8, none⟩) hb3
          have z8 := World.frozen?_of_block (w := wr) (a := ⟨Q, 8, none⟩) hb3
          rw [c8] at k8
          rw [f8] at z8
          have hq3 : Q < w3.heap.size := Nat.lt_of_lt_of_le hq (Nat.le_trans (by simp) hgrow.size)
          have hown' : w3.ownsRow K.b0 155 1 (.slice (some ⟨g', 0, none⟩) (j + 1) cap') (List.replicate (j + 1) (0 : Int)).length (tyC (List.replicate (j + 1) 0)) := by
            have e : tyC (List.replicate (j + 1) 0) = tyC (List.replicate j 0) ++ [.int .i32 0] := by rw [List.replicate_succ']; simp [tyC]
            rw [e, List.length_replicate]
            exact hown
          have hN := HTy.out.names (w1 := wr.alloc (.cells #[.int .i32 0] 155)) ((Fr.refl _ _).alloc _) (by rw [HNV.out]; exact hgrow) hown' (by rw [HNV.out]; simpa using hv)
          have HN : Hid (Ty K Q (w3.setCell ⟨Q, 8, none⟩ (.slice (some ⟨g', 0, none⟩) (j + 1) cap')) ⟨xNew, List.replicate (j + 1) 0, false⟩ [] { Dk with NV := .slice (some ⟨g', 0, none⟩) (j + 1) cap' }) := hN.1
          have HB : Hid ((w3.setCell ⟨Q, 8, none⟩ (.slice (some ⟨g', 0, none⟩) (j + 1) cap')).heap[w.heap.size]? = some (.cells #[.slice ea t.exps.length ec, .slice pa t.pats.length pc, .int .i64 root, .slice ba t.bnds.length bc] 74 (0, 0))) := (hN.2.block _ (blk_lt HTb.out) (fun h => by have := (HTy.out.own_lt _ h).1; have := HK.out.2.2; omega)).trans HTb.out
          have HF : Hid (Fr (fun _ => False) w (w3.setCell ⟨Q, 8, none⟩ (.slice (some ⟨g', 0, none⟩) (j + 1) cap'))) := HFF.out.trans hN.2 (fun b hb => by have := (HTy.out.own_lt b hb).1; have := HK.out.2.2; right; omega)
          clear hown hown' hgrow hv hb3 hR2 hN c8 f8 hrow
          go_wp2_with fail
          go_roundg (t.bnds.length - (j + 1))
          case measure => rw [HM.out]; omega
          case rel => exact ⟨j + 1, _, by go_num, by omega, rfl, HN.out, HB.out, HF.out⟩
      · obtain rfl : j = t.bnds.length := by omega
        have hmap : (t.bnds.map fun _ => (0 : Int)) = List.replicate t.bnds.length 0 := by simp [List.map_const']
        have HXX : Hid (yExp K.t K.ms N N ⟨xNew, List.replicate t.bnds.length 0, false⟩ [] root = some (f1, t1)) := by
          have e := HX.out
          rw [hmap] at e
          rw [HK.out.1, HK.out.2.1]
          exact e
        clear hTy c8 f8 hmap
        go_wp2_with fail
        refine (exp_all N N _ _ _ _ HXX.out wr Dk HTy.out).mono ?_
        rintro r5 w5 ⟨rfl, D5, hT5, hF5, hO5⟩
        have HF5 : Hid (Fr (fun _ => False) w w5) := HFF.out.trans hF5 (fun b hb => by have := (HTy.out.own_lt b hb).1; have := HK.out.2.2; right; omega)
        have HN5 : Hid (∀ b, own2 Q D5.bk b → w.heap.size ≤ b) := fun b hb => by have := (hT5.own_lt b (.inl (own2_sown hb))).1; have := HK.out.2.2; omega
        have HT5 : Hid (Ty K Q w5 f1 [] D5) := hT5
        obtain ⟨⟨-, -, -, -, -, -, c10⟩, -⟩ := hT5.cells
        have hq5 := hT5.lt
        have ho := HO.out
        clear hT5 hF5 hO5 HO HX HXX m0 m1 m2 m3 hl hq
        cases hwr : f1.wr with
        | true =>
          rw [hwr] at c10
          rw [if_pos hwr] at ho
          injection ho with ho
          subst ho
          go_wp2_with fail
          go_ret2
          exact ⟨HF5.out, rfl⟩
        | false =>
          rw [hwr] at c10
          rw [if_neg (by simp [hwr])] at ho
          obtain ⟨⟨s6, b6⟩, hs6, ho⟩ := bindO ho
          have HS6 : Hid (xSound N f1.s = some (s6, b6)) := hs6
          cases b6 with
          | false =>
            injection ho with ho
            subst ho
            clear hs6
            go_wp2_with fail
            refine (sound_so HT5.out.so HS6.out).mono ?_
            rintro r6 w6 ⟨rfl, hS6, hF6⟩
            have HF6 : Hid (Fr (fun _ => False) w w6) := HF5.out.trans hF6 (fun b hb => .inr (HN5.out b hb))
            clear hS6 hF6
            go_wp2_with fail
            go_ret2
            exact ⟨HF6.out, rfl⟩
          | true =>
            rw [if_pos rfl] at ho
            obtain ⟨o7, hx7, ho⟩ := bindO ho
            injection ho with ho
            subst ho
            have HX7 : Hid (xTxt N s6 t1 = some o7) := hx7
            clear hs6 hx7
            go_wp2_with fail
            refine (sound_so HT5.out.so HS6.out).mono ?_
            rintro r6 w6 ⟨rfl, hS6, hF6⟩
            have HS6' : Hid (So w6 Q 5 154 (tyA K D5.NV D5.FV f1.wr) s6 D5.G D5.bk) := hS6
            have HF6 : Hid (Fr (fun _ => False) w w6) := HF5.out.trans hF6 (fun b hb => .inr (HN5.out b hb))
            clear hS6 hF6
            go_wp2_with fail
            refine (text_so HS6'.out HX7.out).mono ?_
            rintro r7 w7 ⟨rfl, hF7⟩
            have HF7 : Hid (Fr (fun _ => False) w w7) := HF6.out.trans hF7 (fun b hb => .inr (HN5.out b hb))
            clear hF7
            go_wp2_with fail
            go_ret2
            exact ⟨HF7.out, rfl⟩
end
end Go.Proofs.YtklimomeendajaaGreatDoor
