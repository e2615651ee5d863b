import Derived.Deep.LoopGhost
import Derived.Test.YtklimomeendajaaGreatDoorMB2
import Derived.Test.YtklimomeendajaaGreatDoorMB3
import Derived.Test.YtklimomeendajaaGreatDoorMA3
import Derived.Test.YtklimomeendajaaGreatDoorMA8
set_option linter.unusedVariables false
set_option linter.unusedSimpArgs false
/- The writer of types: add, unknown. -/
namespace Go.Proofs.YtklimomeendajaaGreatDoor
open Go.RowKit

theorem info3 {P : Program} {e : TypeId} {z : Value} {k b : Nat} (h : (P.info? e).map (fun i => (i.zero, i.size, i.bytes)) = some (some z, k, b)) : ∃ i, P.info? e = some i ∧ i.zero = some z ∧ i.size = k ∧ i.bytes = b := by
  cases hi : P.info? e with
  | none => rw [hi] at h; cases h
  | some i =>
    rw [hi] at h
    simp only [Option.map_some, Option.some.injEq, Prod.mk.injEq] at h
    exact ⟨i, rfl, h.1, h.2.1, h.2.2⟩

theorem Tryz.infoBy : (Tryz.prog.info? 5).map (fun i => (i.zero, i.size, i.bytes)) = some (some (.int .u8 0), 1, 1) := by kernel_rfl
theorem slBy : SlT Tryz.prog 223 5 (.int .u8 0) 1 1 := ⟨Tryz.underlying223, info3 Tryz.infoBy, rfl, by decide⟩

def wown (q : Nat) (bk : List Nat) (U T : Value) (b : Nat) : Prop := b = q ∨ b ∈ bk ∨ U.ownBlock = some b ∨ T.ownBlock = some b

structure Wt (q f o : Nat) (ty : TypeId) (c : Array Value) (G : Value) (bk : List Nat) (w : World) (s : SX) (U T : Value) (us : List Int) (tx : List UInt8) : Prop where
  blk : w.heap[q]? = some (.cells #[.pointer (some ⟨f, o, none⟩), U, T] 225 (0, 0))
  so : So w f o ty c s G bk
  u : w.ownsRow (q + 1) 155 1 U us.length (tyC us)
  t : w.ownsRow (q + 1) 5 1 T tx.length (byC tx)
  ne : ∀ b, U.ownBlock = some b → T.ownBlock ≠ some b
  old : ∀ b, sown f G bk b → b < q

def Wn (q f o : Nat) (ty : TypeId) (c : Array Value) (G : Value) (bk : List Nat) (w : World) (U T : Value) (w' : World) (s' : SX) (us' : List Int) (tx' : List UInt8) : Prop :=
  ∃ U' T', Wt q f o ty c G bk w' s' U' T' us' tx' ∧ Fr (wown q bk U T) w w' ∧ ∀ b, wown q bk U' T' b → wown q bk U T b ∨ w.heap.size ≤ b

section
variable {q f o : Nat} {ty : TypeId} {c : Array Value} {G : Value} {bk : List Nat} {w w' w1 w2 : World} {s s' : SX} {U T U' T' : Value} {us us' : List Int} {tx tx' : List UInt8}

theorem Wt.lt (h : Wt q f o ty c G bk w s U T us tx) : q < w.heap.size := blk_lt h.blk

theorem Wt.own_lt (h : Wt q f o ty c G bk w s U T us tx) : ∀ b, wown q bk U T b → b < w.heap.size := by
  rintro b (rfl | hb | hb | hb)
  · exact h.lt
  · exact h.so.own_lt b (.inr (.inr hb))
  · exact (h.u.lt b hb).2
  · exact (h.t.lt b hb).2

theorem Wt.fr (h : Wt q f o ty c G bk w s U T us tx) (hF : Fr (fun _ => False) w w') : Wt q f o ty c G bk w' s U T us tx :=
  ⟨(hF.block q h.lt id).trans h.blk, h.so.fr hF, ownsRow_block h.u fun b hb => hF.block b (h.u.lt b hb).2 id, ownsRow_block h.t fun b hb => hF.block b (h.t.lt b hb).2 id, h.ne, h.old⟩

/-- The store has changed. -/
theorem Wt.store (h : Wt q f o ty c G bk w s U T us tx) (hS : So w' f o ty c s' G bk) (hF : Fr (fun b => b ∈ bk) w w') : Wt q f o ty c G bk w' s' U T us tx := by
  have hq : ∀ b, q ≤ b → b ∉ bk := fun b hb hm => by have := h.old b (.inr (.inr hm)); omega
  exact ⟨(hF.block q h.lt (hq q (Nat.le_refl _))).trans h.blk, hS, ownsRow_block h.u fun b hb => hF.block b (h.u.lt b hb).2 (hq b (by have := (h.u.lt b hb).1; omega)), ownsRow_block h.t fun b hb => hF.block b (h.t.lt b hb).2 (hq b (by have := (h.t.lt b hb).1; omega)), h.ne, h.old⟩

theorem Wt.cells (h : Wt q f o ty c G bk w s U T us tx) : (w.cell? ⟨q, 0, none⟩ = some (.pointer (some ⟨f, o, none⟩)) ∧ w.cell? ⟨q, 1, none⟩ = some U ∧ w.cell? ⟨q, 2, none⟩ = some T) ∧ ∀ i, w.frozen? ⟨q, i, none⟩ = false := by
  have hb := h.blk
  exact ⟨⟨by simp [World.cell?, hb], by simp [World.cell?, hb], by simp [World.cell?, hb]⟩, fun i => by simp [World.frozen?, hb]⟩

theorem Wn.refl (h : Wt q f o ty c G bk w s U T us tx) : Wn q f o ty c G bk w U T w s us tx := ⟨U, T, h, Fr.refl _ _, fun _ hb => .inl hb⟩

theorem Wn.pre (h : Wn q f o ty c G bk w1 U T w2 s' us' tx') (hF : Fr (wown q bk U T) w w1) : Wn q f o ty c G bk w U T w2 s' us' tx' := by
  obtain ⟨U2, T2, h1, h2, h3⟩ := h
  refine ⟨U2, T2, h1, hF.trans h2 (fun _ hb => .inl hb), fun b hb => ?_⟩
  rcases h3 b hb with h4 | h4
  · exact .inl h4
  · have := hF.size; right; omega

theorem Wn.trans (hF : Fr (wown q bk U T) w w1) (hO : ∀ b, wown q bk U' T' b → wown q bk U T b ∨ w.heap.size ≤ b) (h : Wn q f o ty c G bk w1 U' T' w2 s' us' tx') : Wn q f o ty c G bk w U T w2 s' us' tx' := by
  obtain ⟨U2, T2, h1, h2, h3⟩ := h
  refine ⟨U2, T2, h1, hF.trans h2 hO, fun b hb => ?_⟩
  rcases h3 b hb with h4 | h4
  · exact hO b h4
  · have := hF.size; right; omega

/-- The text has grown. -/
theorem Wt.text {v' : Value} {l : List UInt8} (h : Wt q f o ty c G bk w s U T us tx) (hF : Fr (fun _ => False) w w1) (hg : w1.grownBy w2 T.ownBlock) (hr : w2.ownsRow (q + 1) 5 1 v' (tx.length + l.length) (byC tx ++ byC l)) (hv : v'.ownBlock = T.ownBlock ∨ v'.ownBlock = some w1.heap.size) :
    Wn q f o ty c G bk w U T (w2.setCell ⟨q, 2, none⟩ v') s us (tx ++ l) := by
  have hsz := hF.size
  have h1 := h.fr hF
  have hTq : T.ownBlock ≠ some q := fun e => by have := (h.t.lt q e).1; omega
  have hF2 : Fr (fun b => T.ownBlock = some b) w1 w2 := (Fr.refl _ w1).grown hg fun k hk => .inl hk
  have hF3 : Fr (fun b => b = q ∨ T.ownBlock = some b) w1 (w2.setCell ⟨q, 2, none⟩ v') := (hF2.mono (fun _ h => .inl (.inr h))).setCell (.inl (.inl rfl)) _
  have hnew : ∀ b, v'.ownBlock = some b → T.ownBlock = some b ∨ w1.heap.size ≤ b := fun b hb => by
    rcases hv with h2 | h2
    · exact .inl (h2 ▸ hb)
    · rw [h2] at hb; cases hb; exact .inr (Nat.le_refl _)
  refine ⟨U, v', ⟨?_, h1.so.frX hF3 ?_, rowKeep hF3 h1.u ?_, ?_, ?_, h.old⟩, ?_, ?_⟩
  · exact blk_set ((hF2.block q h1.lt hTq).trans h1.blk) (by simp)
  · rintro b (rfl | hb) hs
    · have := h.old _ hs; omega
    · have := h.old _ hs; have := (h.t.lt b hb).1; omega
  · intro b hb hx
    rcases hx with rfl | hx
    · have := (h.u.lt _ hb).1; omega
    · exact h.ne b hb hx
  · have e : byC (tx ++ l) = byC tx ++ byC l := by simp [byC]
    rw [e, List.length_append]
    exact ownsRow_block hr fun b hb => Below.heap_setCell _ _ _ _ (by have := (hr.lt b hb).1; show b ≠ q; omega)
  · intro b hb hb'
    rcases hnew b hb' with h2 | h2
    · exact h.ne b hb h2
    · have := (h1.u.lt b hb).2; omega
  · exact (hF.mono (fun _ h => h.elim)).trans hF3 (fun b hb => by rcases hb with hb | hb; exact .inl (.inl hb); exact .inl (.inr (.inr (.inr hb))))
  · rintro b (hb | hb | hb | hb)
    · exact .inl (.inl hb)
    · exact .inl (.inr (.inl hb))
    · exact .inl (.inr (.inr (.inl hb)))
    · rcases hnew b hb with h2 | h2
      · exact .inl (.inr (.inr (.inr h2)))
      · right; omega

/-- The list of unknown types has grown. -/
theorem Wt.unk {v' : Value} {t : Int} (h : Wt q f o ty c G bk w s U T us tx) (hF : Fr (fun _ => False) w w1) (hg : w1.grownBy w2 U.ownBlock) (hr : w2.ownsRow (q + 1) 155 1 v' (us.length + 1) (tyC us ++ [.int .i32 t])) (hv : v'.ownBlock = U.ownBlock ∨ v'.ownBlock = some w1.heap.size) :
    Wn q f o ty c G bk w U T (w2.setCell ⟨q, 1, none⟩ v') s (us ++ [t]) tx := by
  have hsz := hF.size
  have h1 := h.fr hF
  have hTq : U.ownBlock ≠ some q := fun e => by have := (h.u.lt q e).1; omega
  have hF2 : Fr (fun b => U.ownBlock = some b) w1 w2 := (Fr.refl _ w1).grown hg fun k hk => .inl hk
  have hF3 : Fr (fun b => b = q ∨ U.ownBlock = some b) w1 (w2.setCell ⟨q, 1, none⟩ v') := (hF2.mono (fun _ h => .inl (.inr h))).setCell (.inl (.inl rfl)) _
  have hnew : ∀ b, v'.ownBlock = some b → U.ownBlock = some b ∨ w1.heap.size ≤ b := fun b hb => by
    rcases hv with h2 | h2
    · exact .inl (h2 ▸ hb)
    · rw [h2] at hb; cases hb; exact .inr (Nat.le_refl _)
  refine ⟨v', T, ⟨?_, h1.so.frX hF3 ?_, ?_, rowKeep hF3 h1.t ?_, ?_, h.old⟩, ?_, ?_⟩
  · exact blk_set ((hF2.block q h1.lt hTq).trans h1.blk) (by simp)
  · rintro b (rfl | hb) hs
    · have := h.old _ hs; omega
    · have := h.old _ hs; have := (h.u.lt b hb).1; omega
  · have e : tyC (us ++ [t]) = tyC us ++ [.int .i32 t] := by simp [tyC]
    rw [e, List.length_append]
    exact ownsRow_block hr fun b hb => Below.heap_setCell _ _ _ _ (by have := (hr.lt b hb).1; show b ≠ q; omega)
  · intro b hb hx
    rcases hx with rfl | hx
    · have := (h.t.lt _ hb).1; omega
    · exact h.ne b hx hb
  · intro b hb hb'
    rcases hnew b hb with h2 | h2
    · exact h.ne b h2 hb'
    · have := (h1.t.lt b hb').2; omega
  · exact (hF.mono (fun _ h => h.elim)).trans hF3 (fun b hb => by rcases hb with hb | hb; exact .inl (.inl hb); exact .inl (.inr (.inr (.inl hb))))
  · rintro b (hb | hb | hb | hb)
    · exact .inl (.inl hb)
    · exact .inl (.inr (.inl hb))
    · rcases hnew b hb with h2 | h2
      · exact .inl (.inr (.inr (.inl h2)))
      · right; omega
    · exact .inl (.inr (.inr (.inr hb)))

set_option maxHeartbeats 600000 in
set_option maxRecDepth 100000 in
theorem wadd_so (h : Wt q f o ty c G bk w s U T us tx) (l : List UInt8) (hl : tx.length + l.length ≤ 4000000000) :
    Calls Tryz.prog 184 #[.pointer (some ⟨q, 0, none⟩), .string (bz l)] w fun e w' => e = .returned (.tuple #[]) ∧ Wn q f o ty c G bk w U T w' s us (tx ++ l) := by
  have HW : Hid (Wt q f o ty c G bk w s U T us tx) := h
  obtain ⟨⟨-, -, c2⟩, hfz⟩ := h.cells
  have f2 := hfz 2
  have hq := h.lt
  have hT := h.t
  obtain ⟨ta, tc, rfl⟩ := ownsRow_len h.t
  have HTq : Hid (∀ b, (Value.slice ta tx.length tc).ownBlock = some b → q + 1 ≤ b) := fun b hb => (hT.lt b hb).1
  clear h hfz
  go_enter Tryz.func184, Tryz.ntmps184
  go_wp2_with (at_builtin; refine wpList_app_str slBy Tryz.underlying9 rfl (.tmp 8) (.tmp 9) rfl (q + 1) tx.length (byC tx) _ rfl hT l rfl ?b1 ?b2 ?b3 ?grow)
  case b1 => unfold maxLen; omega
  case b2 => omega
  case b3 => omega
  case grow =>
    intro v' w3 hown hgrow hv
    obtain ⟨va, vc, rfl⟩ := ownsRow_len hown
    have hb2 : w3.heap[q]? = w.heap[q]? := hgrow.block q hq (fun e => by have := HTq.out q e.symm; omega)
    have k2 := World.cell?_of_block (w := w) (a := ⟨q, 2, none⟩) hb2
    have z2 := World.frozen?_of_block (w := w) (a := ⟨q, 2, none⟩) hb2
    rw [c2] at k2
    rw [f2] at z2
    have hq3 : q < w3.heap.size := Nat.lt_of_lt_of_le hq hgrow.size
    have HN : Hid (Wn q f o ty c G bk w U (.slice ta tx.length tc) (w3.setCell ⟨q, 2, none⟩ (.slice va (tx.length + l.length) vc)) s us (tx ++ l)) := HW.out.text (Fr.refl _ _) hgrow hown hv
    clear hown hgrow hv hb2 hT c2 f2
    go_wp2_with fail
    go_end0
    exact ⟨rfl, HN.out⟩
end
end Go.Proofs.YtklimomeendajaaGreatDoor

/- copied. -/
namespace Go.Proofs.YtklimomeendajaaGreatDoor
open Go.RowKit

section
variable {w w' w1 w2 : World} {f o : Nat} {ty : TypeId} {c : Array Value} {s s' s2 : SX} {G G' : Value} {bk bk' : List Nat} {t : Int} {x x' : ND}

theorem Sn.pre {W : World} (h : Sn f o ty c W G bk w2 s2) (hF : Fr (sown f G bk) w W) : Sn f o ty c w G bk w2 s2 :=
  Sn.trans (G' := G) (bk' := []) hF (fun b hb => .inl (by simpa using hb)) (by simpa using h)

theorem noteOf {u i : Int} (h : xNoteOf s u = some i) : ∃ y, xAt s u = some y ∧ y.nt = i := by
  unfold xNoteOf at h
  obtain ⟨y, hy, h⟩ := bindO h
  injection h with h
  exact ⟨y, hy, h⟩

set_option maxHeartbeats 600000 in
set_option maxRecDepth 100000 in
theorem copied_so (h : So w f o ty c s G bk) {n : Nat} {i : Int} (hx : xCopied n s t = some (s', i)) :
    Calls Tryz.prog 170 #[.pointer (some ⟨f, o, none⟩), .int .i32 t] w fun e w' => e = .returned (.int .i32 i) ∧ Sn f o ty c w G bk w' s' := by
  unfold xCopied at hx
  obtain ⟨x, hxt, hx⟩ := bindO hx
  obtain ⟨⟨s1, l⟩, hp, hx⟩ := bindO hx
  obtain ⟨b, m, ha⟩ := adr_ex bk t
  obtain ⟨hb, c0, -⟩ := h.six hxt ha
  have HS : Hid (So w f o ty c s G bk) := h
  have HX : Hid (xAt s t = some x) := hxt
  have HD : Hid (adr bk t = ⟨b, m, none⟩) := ha
  have HP : Hid (xParts n s t = some (s1, l)) := hp
  have HC : Hid _ := hx
  obtain ⟨kv, hkv⟩ : ∃ kv : Int, (x.k : Int) = kv := ⟨_, rfl⟩
  have HK : Hid ((x.k : Int) = kv) := hkv
  rw [hkv] at c0
  clear h hxt ha hp hx hkv
  go_enter Tryz.func170, Tryz.ntmps170
  go_wp2_with fail
  refine (at_so (HS.out.fr (by repeat (first | with_reducible exact Fr.refl _ _ | (with_reducible refine Fr.drew ?_) | (with_reducible refine Fr.drewN ?_ _) | (with_reducible refine Fr.alloc ?_ _) | ((with_reducible refine Fr.setCell ?_ ?_ _); rotate_left; first | exact .inl rfl | exact .inr (Nat.le_refl _) | exact .inl (Nat.le_refl _) | (focus (left; simp; done)) | (focus (left; simp; omega)) | (focus (left; omega)) | (focus (right; simp; done)) | (focus (right; simp; omega)) | (focus (right; omega))) | exact Fr.refl _ _))) HX.out HD.out).mono ?_
  rintro r w1 ⟨rfl, rfl⟩
  go_wp2_with fail
  have hL : (w1.alloc (.cells #[.int .u8 kv, .bool false, .int .i32 0, .int .i32 0, .int .i32 0, .int .i32 0] 213)).heap[w1.heap.size]? = some (.cells #[.int .u8 kv, .bool false, .int .i32 0, .int .i32 0, .int .i32 0, .int .i32 0] 213 (0, 0)) := blk_new w1 _
  have HS2 : Hid (So (w1.alloc (.cells #[.int .u8 kv, .bool false, .int .i32 0, .int .i32 0, .int .i32 0, .int .i32 0] 213)) f o ty c s G bk) := HS.out.fr (by repeat (first | with_reducible exact Fr.refl _ _ | (with_reducible refine Fr.drew ?_) | (with_reducible refine Fr.drewN ?_ _) | (with_reducible refine Fr.alloc ?_ _) | ((with_reducible refine Fr.setCell ?_ ?_ _); rotate_left; first | exact .inl rfl | exact .inr (Nat.le_refl _) | exact .inl (Nat.le_refl _) | (focus (left; simp; done)) | (focus (left; simp; omega)) | (focus (left; omega)) | (focus (right; simp; done)) | (focus (right; simp; omega)) | (focus (right; omega))) | exact Fr.refl _ _))
  have HF2 : Hid (Fr (fun _ => False) w1 (w1.alloc (.cells #[.int .u8 kv, .bool false, .int .i32 0, .int .i32 0, .int .i32 0, .int .i32 0] 213))) := (Fr.refl _ _).alloc _
  generalize w1.alloc (.cells #[.int .u8 kv, .bool false, .int .i32 0, .int .i32 0, .int .i32 0, .int .i32 0] 213) = w2 at *
  refine (parts_so HS2.out HP.out).mono ?_
  rintro r w3 ⟨rfl, hS3, hF3⟩
  have hL3 := HS.out.kp hF3 (Nat.le_refl _) hL
  have HS3 : Hid (So w3 f o ty c s1 G bk) := hS3
  have HF3 : Hid (Fr (sown f G bk) w1 w3) := (HF2.out.mono (fun _ h => h.elim)).trans hF3 (fun _ h => .inl (.inr (.inr h)))
  have hlt := blk_lt hL3
  have hfz0 : ∀ i, w3.frozen? ⟨w1.heap.size, i, none⟩ = false := fun i => by simp [World.frozen?, hL3]
  have z2 := hfz0 2
  have z3 := hfz0 3
  obtain ⟨f0, f1, f2, f3, f4, f5⟩ := cells6 hL3
  have HL3 : Hid (w3.heap[w1.heap.size]? = some (.cells #[.int .u8 kv, .bool false, .int .i32 0, .int .i32 0, .int .i32 0, .int .i32 0] 213 (0, 0))) := hL3
  clear hS3 hF3 hL hL3 HS2 HF2 hfz0 c0
  have hll := xParts_len HP.out
  match l, hll, HP, HC with
  | [], _, HP, HC =>
    go_wp2_with fail
    refine (add_at (HS3.out.fr (by repeat (first | with_reducible exact Fr.refl _ _ | (with_reducible refine Fr.drew ?_) | (with_reducible refine Fr.drewN ?_ _) | (with_reducible refine Fr.alloc ?_ _) | ((with_reducible refine Fr.setCell ?_ ?_ _); rotate_left; first | exact .inl rfl | exact .inr (Nat.le_refl _) | exact .inl (Nat.le_refl _) | (focus (left; simp; done)) | (focus (left; simp; omega)) | (focus (left; omega)) | (focus (right; simp; done)) | (focus (right; simp; omega)) | (focus (right; omega))) | exact Fr.refl _ _))) x.k kv 0 0 HK.out HC.out).mono ?_
    rintro r w9 ⟨rfl, hN⟩
    have HN : Hid (Sn f o ty c w1 G bk w9 s') := hN.pre (by repeat (first | with_reducible exact HF3.out | (with_reducible refine Fr.drew ?_) | (with_reducible refine Fr.drewN ?_ _) | (with_reducible refine Fr.alloc ?_ _) | ((with_reducible refine Fr.setCell ?_ ?_ _); rotate_left; first | exact .inl rfl | exact .inr (Nat.le_refl _) | exact .inl (Nat.le_refl _) | (focus (left; simp; done)) | (focus (left; simp; omega)) | (focus (left; omega)) | (focus (right; simp; done)) | (focus (right; simp; omega)) | (focus (right; omega)))))
    clear hN
    go_wp2_with fail
    go_ret
    exact ⟨rfl, HN.out⟩
  | [u], _, HP, HC =>
    obtain ⟨iu, hu, hC⟩ := bindO HC.out
    obtain ⟨y, hy, rfl⟩ := noteOf hu
    clear HC
    have HC : Hid (xAdd s1 { k := x.k, a := y.nt } = some (s', i)) := hC
    obtain ⟨b3, m3, ha3⟩ := adr_ex bk u
    obtain ⟨hb3, -, -, -, -, -, d5, -⟩ := HS3.out.six hy ha3
    have HY : Hid (xAt s1 u = some y) := hy
    have HA3 : Hid (adr bk u = ⟨b3, m3, none⟩) := ha3
    clear hu hC hy ha3
    go_wp2_with fail
    refine (at_so (HS3.out.fr (by repeat (first | with_reducible exact Fr.refl _ _ | (with_reducible refine Fr.drew ?_) | (with_reducible refine Fr.drewN ?_ _) | (with_reducible refine Fr.alloc ?_ _) | ((with_reducible refine Fr.setCell ?_ ?_ _); rotate_left; first | exact .inl rfl | exact .inr (Nat.le_refl _) | exact .inl (Nat.le_refl _) | (focus (left; simp; done)) | (focus (left; simp; omega)) | (focus (left; omega)) | (focus (right; simp; done)) | (focus (right; simp; omega)) | (focus (right; omega))) | exact Fr.refl _ _))) HY.out HA3.out).mono ?_
    rintro r w5 ⟨rfl, rfl⟩
    go_wp2_with fail
    refine (add_at (HS.out.out HS3.out (by repeat (first | with_reducible exact Fr.refl _ _ | (with_reducible refine Fr.drew ?_) | (with_reducible refine Fr.drewN ?_ _) | (with_reducible refine Fr.alloc ?_ _) | ((with_reducible refine Fr.setCell ?_ ?_ _); rotate_left; first | exact .inl rfl | exact .inr (Nat.le_refl _) | exact .inl (Nat.le_refl _) | (focus (left; simp; done)) | (focus (left; simp; omega)) | (focus (left; omega)) | (focus (right; simp; done)) | (focus (right; simp; omega)) | (focus (right; omega)))))) x.k kv y.nt 0 HK.out HC.out).mono ?_
    rintro r w9 ⟨rfl, hN⟩
    have HN : Hid (Sn f o ty c w1 G bk w9 s') := hN.pre (by repeat (first | with_reducible exact HF3.out | (with_reducible refine Fr.drew ?_) | (with_reducible refine Fr.drewN ?_ _) | (with_reducible refine Fr.alloc ?_ _) | ((with_reducible refine Fr.setCell ?_ ?_ _); rotate_left; first | exact .inl rfl | exact .inr (Nat.le_refl _) | exact .inl (Nat.le_refl _) | (focus (left; simp; done)) | (focus (left; simp; omega)) | (focus (left; omega)) | (focus (right; simp; done)) | (focus (right; simp; omega)) | (focus (right; omega)))))
    clear hN
    go_wp2_with fail
    go_ret
    exact ⟨rfl, HN.out⟩
  | [u, v], _, HP, HC =>
    obtain ⟨iu, hu, hC⟩ := bindO HC.out
    obtain ⟨y, hy, rfl⟩ := noteOf hu
    obtain ⟨iv, hv, hC⟩ := bindO hC
    obtain ⟨z, hz, rfl⟩ := noteOf hv
    clear HC
    have HC : Hid (xAdd s1 { k := x.k, a := y.nt, b := z.nt } = some (s', i)) := hC
    obtain ⟨b3, m3, ha3⟩ := adr_ex bk u
    obtain ⟨b4, m4, ha4⟩ := adr_ex bk v
    obtain ⟨hb3, -, -, -, -, -, d5, -⟩ := HS3.out.six hy ha3
    obtain ⟨hb4, -, -, -, -, -, e5, -⟩ := HS3.out.six hz ha4
    have n3 : w1.heap.size ≠ b3 := fun e => HS.out.new (Nat.le_of_eq e) (.inr (.inr (adr_mem HS3.out hy ha3)))
    have n4 : w1.heap.size ≠ b4 := fun e => HS.out.new (Nat.le_of_eq e) (.inr (.inr (adr_mem HS3.out hz ha4)))
    have HY : Hid (xAt s1 u = some y) := hy
    have HA3 : Hid (adr bk u = ⟨b3, m3, none⟩) := ha3
    have HZ : Hid (xAt s1 v = some z) := hz
    have HA4 : Hid (adr bk v = ⟨b4, m4, none⟩) := ha4
    clear hu hC hy ha3 hv hz ha4
    go_wp2_with fail
    refine (at_so (HS3.out.fr (by repeat (first | with_reducible exact Fr.refl _ _ | (with_reducible refine Fr.drew ?_) | (with_reducible refine Fr.drewN ?_ _) | (with_reducible refine Fr.alloc ?_ _) | ((with_reducible refine Fr.setCell ?_ ?_ _); rotate_left; first | exact .inl rfl | exact .inr (Nat.le_refl _) | exact .inl (Nat.le_refl _) | (focus (left; simp; done)) | (focus (left; simp; omega)) | (focus (left; omega)) | (focus (right; simp; done)) | (focus (right; simp; omega)) | (focus (right; omega))) | exact Fr.refl _ _))) HY.out HA3.out).mono ?_
    rintro r w5 ⟨rfl, rfl⟩
    go_wp2_with fail
    refine (at_so (HS.out.out HS3.out (by repeat (first | with_reducible exact Fr.refl _ _ | (with_reducible refine Fr.drew ?_) | (with_reducible refine Fr.drewN ?_ _) | (with_reducible refine Fr.alloc ?_ _) | ((with_reducible refine Fr.setCell ?_ ?_ _); rotate_left; first | exact .inl rfl | exact .inr (Nat.le_refl _) | exact .inl (Nat.le_refl _) | (focus (left; simp; done)) | (focus (left; simp; omega)) | (focus (left; omega)) | (focus (right; simp; done)) | (focus (right; simp; omega)) | (focus (right; omega)))))) HZ.out HA4.out).mono ?_
    rintro r w6 ⟨rfl, rfl⟩
    go_wp2_with fail
    refine (add_at (HS.out.out HS3.out (by repeat (first | with_reducible exact Fr.refl _ _ | (with_reducible refine Fr.drew ?_) | (with_reducible refine Fr.drewN ?_ _) | (with_reducible refine Fr.alloc ?_ _) | ((with_reducible refine Fr.setCell ?_ ?_ _); rotate_left; first | exact .inl rfl | exact .inr (Nat.le_refl _) | exact .inl (Nat.le_refl _) | (focus (left; simp; done)) | (focus (left; simp; omega)) | (focus (left; omega)) | (focus (right; simp; done)) | (focus (right; simp; omega)) | (focus (right; omega)))))) x.k kv y.nt z.nt HK.out HC.out).mono ?_
    rintro r w9 ⟨rfl, hN⟩
    have HN : Hid (Sn f o ty c w1 G bk w9 s') := hN.pre (by repeat (first | with_reducible exact HF3.out | (with_reducible refine Fr.drew ?_) | (with_reducible refine Fr.drewN ?_ _) | (with_reducible refine Fr.alloc ?_ _) | ((with_reducible refine Fr.setCell ?_ ?_ _); rotate_left; first | exact .inl rfl | exact .inr (Nat.le_refl _) | exact .inl (Nat.le_refl _) | (focus (left; simp; done)) | (focus (left; simp; omega)) | (focus (left; omega)) | (focus (right; simp; done)) | (focus (right; simp; omega)) | (focus (right; omega)))))
    clear hN
    go_wp2_with fail
    go_ret
    exact ⟨rfl, HN.out⟩
  | _ :: _ :: _ :: _, hll, _, _ => simp at hll
end
end Go.Proofs.YtklimomeendajaaGreatDoor

/- Instance. -/
namespace Go.Proofs.YtklimomeendajaaGreatDoor
open Go.RowKit

/-- An element of a row of types. -/
theorem tyAt {w : World} {base : Nat} {v : Value} {l : List Int} (h : w.ownsRow base 155 1 v l.length (tyC l)) {j : Nat} (hj : j < l.length) :
    ∃ g cap, v = .slice (some ⟨g, 0, none⟩) l.length cap ∧ w.cell? ⟨g, j, none⟩ = some (.int .i32 (l.getD j 0)) ∧ g < w.heap.size := by
  rcases h.2 with ⟨_, h0⟩ | ⟨g, cap, cur, rfl, hg⟩
  · omega
  · refine ⟨g, cap, rfl, ?_, (h.lt g rfl).2⟩
    rw [World.ownsRow.cellAt h j (by omega)]
    simp [tyC, hj]

section
variable {w w' w1 w2 : World} {f o : Nat} {ty : TypeId} {c : Array Value} {s s' s2 : SX} {G G' : Value} {bk bk' : List Nat} {t : Int} {x x' : ND}

theorem Sn.of (h : So w f o ty c s G bk) (h1 : So w1 f o ty c s' G bk) (hF : Fr (sown f G bk) w w1) : Sn f o ty c w G bk w1 s' := ⟨G, [], by simpa using h1, hF, fun b hb => .inl (by simpa using hb)⟩

theorem own2_sown {b : Nat} (h : own2 f bk b) : sown f G bk b := by rcases h with h | h; exact .inl h; exact .inr (.inr h)

set_option maxHeartbeats 600000 in
set_option maxRecDepth 100000 in
theorem inst_so (h : So w f o ty c s G bk) {n : Nat} {i : Int} (hx : xInst n s t = some (s', i)) :
    Calls Tryz.prog 114 #[.pointer (some ⟨f, o, none⟩), .int .i32 t] w fun e w' => e = .returned (.int .i32 i) ∧ Sn f o ty c w G bk w' s' := by
  unfold xInst at hx
  obtain ⟨⟨s1, r⟩, hf, hx⟩ := bindO hx
  obtain ⟨x, hxr, hx⟩ := bindO hx
  have HS : Hid (So w f o ty c s G bk) := h
  have H1 : Hid (xFind n s t = some (s1, r)) := hf
  have HR : Hid (xAt s1 r = some x) := hxr
  obtain ⟨b, m, ha⟩ := adr_ex bk r
  have HA : Hid (adr bk r = ⟨b, m, none⟩) := ha
  clear h hf hxr ha
  cases hop : x.op with
  | false =>
    rw [hop] at hx
    injection hx with hx
    injection hx with e1 e2
    subst e1 e2
    go_enter Tryz.func114, Tryz.ntmps114
    go_wp2_with fail
    refine (find_so HS.out H1.out).mono ?_
    rintro e3 w3 ⟨rfl, hS3, hF3⟩
    obtain ⟨hb, -, c1, -⟩ := hS3.six HR.out HA.out
    rw [hop] at c1
    have HS3 : Hid (So w3 f o ty c s1 G bk) := hS3
    have HE : Hid (Sn f o ty c w G bk w3 s1) := Sn.of HS.out hS3 (hF3.mono (fun b h => .inl (.inr (.inr h))))
    clear hS3 hF3
    go_wp2_with fail
    refine (at_so HS3.out HR.out HA.out).mono ?_
    rintro r w5 ⟨rfl, rfl⟩
    go_wp2_with fail
    go_ret
    exact ⟨rfl, HE.out⟩
  | true =>
    rw [hop] at hx
    obtain ⟨⟨s2, dn, ok⟩, hin, hx⟩ := bindO hx
    obtain ⟨s3, hcp, hx⟩ := bindO hx
    obtain ⟨v, hnt, hx⟩ := bindO hx
    injection hx with hx
    injection hx with e1 e2
    subst e1 e2
    obtain ⟨z, hz, hzn⟩ := noteOf hnt
    have HI : Hid (xInside n s1 r = some (s2, dn, ok)) := hin
    have HC : Hid (xCopies n dn s2 = some s3) := hcp
    have HZ : Hid (xAt s3 r = some z ∧ z.nt = v) := ⟨hz, hzn⟩
    clear hin hcp hnt hz hzn
    go_enter Tryz.func114, Tryz.ntmps114
    go_wp2_with fail
    refine (find_so HS.out H1.out).mono ?_
    rintro e3 w3 ⟨rfl, hS3, hF3⟩
    obtain ⟨hb, -, c1, -⟩ := hS3.six HR.out HA.out
    rw [hop] at c1
    have HS3 : Hid (So w3 f o ty c s1 G bk) := hS3
    have HF3 : Hid (Fr (fun b => b ∈ bk) w w3) := hF3
    clear hS3 hF3
    go_wp2_with fail
    refine (at_so HS3.out HR.out HA.out).mono ?_
    rintro r4 w4 ⟨rfl, rfl⟩
    go_wp2_with fail
    refine (inside_so HS3.out HI.out).mono ?_
    rintro r5 w5 ⟨D, rfl, hD, hS5, hF5⟩
    have HS5 : Hid (So w5 f o ty c s2 G bk) := hS5
    have HF5 : Hid (Fr (sown f G bk) w w5) := (HF3.out.mono (fun b h => .inl (.inr (.inr h)))).trans hF5 (fun b h => .inl (own2_sown h))
    have HD5 : Hid (w5.ownsRow w.heap.size 155 1 D dn.length (tyC dn)) := ownsRow_base hD fun b hb => Nat.le_trans HF3.out.size (hD.lt b hb).1
    have HDn : Hid (∀ b, D.ownBlock = some b → ¬ sown f G bk b) := fun b hb => HS.out.new (Nat.le_trans HF3.out.size (hD.lt b hb).1)
    obtain ⟨da, dc, rfl⟩ := ownsRow_len hD
    clear hS5 hF5 hD c1
    go_wp2_with fail
    have HAr : Hid (∀ bk', adr (bk ++ bk') r = ⟨b, m, none⟩) := fun bk' => (adr_app HS3.out HR.out).trans HA.out
    have hdl : dn.length ≤ 9223372036854775807 := by
      rcases HD5.out.2 with ⟨_, h0⟩ | ⟨g', cap', cur', h1, _, _, h2, h3, _⟩
      · omega
      · unfold maxLen at h3; omega
    have HX : Hid (Fr (sown f G bk) w w5 ∧ So w5 f o ty c s2 G bk) := ⟨HF5.out, HS5.out⟩
    clear HF5 HS5 HS3 HF3 HI H1 hb
    go_loopg [8] dn.length (fun k iv wr => ∃ (j : Nat) (sk : SX) (Gk : Value) (bk' : List Nat), iv = .int .i64 j ∧ j ≤ dn.length ∧ k = dn.length - j ∧ xCopies n (dn.drop j) sk = some s3 ∧ So wr f o ty c sk Gk (bk ++ bk') ∧ Fr (sown f G bk) w wr ∧ (∀ b, sown f Gk (bk ++ bk') b → sown f G bk b ∨ w.heap.size ≤ b) ∧ wr.ownsRow w.heap.size 155 1 (.slice da dn.length dc) dn.length (tyC dn) ∧ ∀ b, (Value.slice da dn.length dc).ownBlock = some b → ¬ sown f Gk (bk ++ bk') b)
    case atStart => exact ⟨0, s2, G, [], rfl, Nat.zero_le _, rfl, HC.out, by simpa using HX.out.2, HX.out.1, fun b hb => .inl (by simpa using hb), HD5.out, fun b hb => by simpa using HDn.out b hb⟩
    case round =>
      obtain ⟨j, sk, Gk, bk1, rfl, hj, hk, hcp, hS, hF, hO, hD, hN⟩ := hrel
      have HM : Hid (gk = dn.length - j) := hk
      clear hk HX HD5 HDn HC
      by_cases hjl : j < dn.length
      · rw [drop_cons hjl, xCopies] at hcp
        obtain ⟨y, hy, hcp⟩ := bindO hcp
        obtain ⟨g, cap, hDe, cj, hg⟩ := tyAt hD hjl
        cases hDe
        obtain ⟨u, hu⟩ : ∃ u, dn.getD j 0 = u := ⟨_, rfl⟩
        rw [hu] at cj hy hcp
        obtain ⟨b1, m1, ha1⟩ := adr_ex (bk ++ bk1) u
        obtain ⟨hb1, -, d1, -, -, -, d5, hfz⟩ := hS.six hy ha1
        have f5 := hfz (m1 + 5)
        have hmem := adr_mem hS hy ha1
        have hgb : g ≠ b1 := fun e => hN g rfl (.inr (.inr (e ▸ hmem)))
        have HS1 : Hid (So wr f o ty c sk Gk (bk ++ bk1)) := hS
        have HY : Hid (xAt sk u = some y) := hy
        have HA1 : Hid (adr (bk ++ bk1) u = ⟨b1, m1, none⟩) := ha1
        have HO1 : Hid (∀ b, sown f Gk (bk ++ bk1) b → sown f G bk b ∨ w.heap.size ≤ b) := hO
        have HP : Hid (So (wr.setCell ⟨b1, m1 + 5, none⟩ (.int .i32 u)) f o ty c (xSet sk u { y with nt := u }) Gk (bk ++ bk1)) := hS.put hy ha1 (by decide) (ndc_nt _)
        have HF1 : Hid (Fr (sown f G bk) w (wr.setCell ⟨b1, m1 + 5, none⟩ (.int .i32 u))) := hF.setCell (hO b1 (.inr (.inr hmem))) _
        have HD1 : Hid ((wr.setCell ⟨b1, m1 + 5, none⟩ (.int .i32 u)).ownsRow w.heap.size 155 1 (.slice (some ⟨g, 0, none⟩) dn.length dc) dn.length (tyC dn)) := ownsRow_block hD fun b hb => Below.heap_setCell _ _ _ _ (by injection hb with hb; subst hb; exact hgb)
        have HN1 : Hid (∀ b, (Value.slice (some ⟨g, 0, none⟩) dn.length dc).ownBlock = some b → ¬ sown f Gk (bk ++ bk1) b) := hN
        clear hS hy ha1 hO hF hD hN hfz hmem hu
        cases hyo : y.op with
        | false =>
          rw [if_neg (by simp [hyo])] at hcp
          have HC : Hid (xCopies n (dn.drop (j + 1)) (xSet sk u { y with nt := u }) = some s3) := hcp
          rw [hyo] at d1
          clear hcp
          go_wp2_with fail
          refine (at_so HS1.out HY.out HA1.out).mono ?_
          rintro e6 w6 ⟨rfl, rfl⟩
          go_wp2_with fail
          go_roundg (dn.length - (j + 1))
          case measure => rw [HM.out]; omega
          case rel => exact ⟨j + 1, _, Gk, bk1, by go_num, by omega, rfl, HC.out, HP.out, HF1.out, HO1.out, HD1.out, HN1.out⟩
        | true =>
          rw [if_pos hyo] at hcp
          obtain ⟨⟨s4, i4⟩, hc4, hcp⟩ := bindO hcp
          obtain ⟨z4, hz4, hcp⟩ := bindO hcp
          have HC4 : Hid (xCopied n (xSet sk u { y with nt := u }) u = some (s4, i4)) := hc4
          have HZ4 : Hid (xAt s4 u = some z4) := hz4
          have HC : Hid (xCopies n (dn.drop (j + 1)) (xSet s4 u { z4 with nt := i4 }) = some s3) := hcp
          rw [hyo] at d1
          clear hcp hc4 hz4
          go_wp2_with fail
          refine (at_so HS1.out HY.out HA1.out).mono ?_
          rintro e6 w6 ⟨rfl, rfl⟩
          go_wp2_with fail
          refine (copied_so HP.out HC4.out).mono ?_
          rintro e7 w7 ⟨rfl, G7, b7, hS7, hF7, hO7⟩
          have hA7 : adr (bk ++ bk1 ++ b7) u = ⟨b1, m1, none⟩ := (adr_app HS1.out HY.out).trans HA1.out
          obtain ⟨hb7, -, -, -, -, -, e5, hfz7⟩ := hS7.six HZ4.out hA7
          have y5 := hfz7 (m1 + 5)
          have hm7 := adr_mem hS7 HZ4.out hA7
          have hsz : (w6.setCell ⟨b1, m1 + 5, none⟩ (.int .i32 u)).heap.size = w6.heap.size := by simp
          have hO7' : ∀ b, sown f G7 (bk ++ (bk1 ++ b7)) b → sown f G bk b ∨ w.heap.size ≤ b := fun b hb => by
            rw [← List.append_assoc] at hb
            rcases hO7 b hb with h | h
            · exact HO1.out b h
            · have := HF1.out.size; right; omega
          have HF8 : Hid (Fr (sown f G bk) w (w7.setCell ⟨b1, m1 + 5, none⟩ (.int .i32 i4))) := (HF1.out.trans hF7 HO1.out).setCell (hO7' b1 (by rw [← List.append_assoc]; exact .inr (.inr hm7))) _
          have HS8 : Hid (So (w7.setCell ⟨b1, m1 + 5, none⟩ (.int .i32 i4)) f o ty c (xSet s4 u { z4 with nt := i4 }) G7 (bk ++ (bk1 ++ b7))) := by
            have h8 := hS7.put HZ4.out hA7 (by decide) (ndc_nt (x := z4) i4)
            rw [List.append_assoc] at h8
            exact h8
          have hN7 : ∀ b, (Value.slice (some ⟨g, 0, none⟩) dn.length dc).ownBlock = some b → ¬ sown f G7 (bk ++ (bk1 ++ b7)) b := fun b hb h => by
            rw [← List.append_assoc] at h
            rcases hO7 b h with h1 | h1
            · exact HN1.out b hb h1
            · have := (HD1.out.lt b hb).2; omega
          have HD8 : Hid ((w7.setCell ⟨b1, m1 + 5, none⟩ (.int .i32 i4)).ownsRow w.heap.size 155 1 (.slice (some ⟨g, 0, none⟩) dn.length dc) dn.length (tyC dn)) := ownsRow_block HD1.out fun b hb => by
            rw [Below.heap_setCell _ _ _ _ (by rintro rfl; exact hN7 _ hb (by rw [← List.append_assoc]; exact .inr (.inr hm7)))]
            exact hF7.block b (HD1.out.lt b hb).2 (HN1.out b hb)
          have HN8 : Hid _ := hN7
          have HO8 : Hid _ := hO7'
          clear hS7 hF7 hO7 hA7 hfz7 hm7 hsz hO7' hN7
          go_wp2_with fail
          go_roundg (dn.length - (j + 1))
          case measure => rw [HM.out]; omega
          case rel => exact ⟨j + 1, _, G7, bk1 ++ b7, by go_num, by omega, rfl, HC.out, HS8.out, HF8.out, HO8.out, HD8.out, HN8.out⟩
      · obtain rfl : j = dn.length := by omega
        rw [List.drop_length, xCopies] at hcp
        injection hcp with hcp
        subst hcp
        obtain ⟨hz, hzn⟩ := HZ.out
        obtain ⟨hb1, -, -, -, -, -, d5, -⟩ := hS.six hz (HAr.out bk1)
        have HS1 : Hid (So wr f o ty c sk Gk (bk ++ bk1)) := hS
        have HE : Hid (Sn f o ty c w G bk wr sk) := ⟨Gk, bk1, hS, hF, hO⟩
        rw [hzn] at d5
        clear hS hF hO hD hN hz hzn
        go_wp2_with fail
        refine (at_so HS1.out HZ.out.1 (HAr.out bk1)).mono ?_
        rintro e6 w6 ⟨rfl, rfl⟩
        go_wp2_with fail
        go_ret
        exact ⟨rfl, HE.out⟩
end
end Go.Proofs.YtklimomeendajaaGreatDoor

/- unknown. -/
namespace Go.Proofs.YtklimomeendajaaGreatDoor
open Go.RowKit

theorem idx_len {l : List Int} {t : Int} (h : ∀ i, i < l.length → l.getD i 0 ≠ t) : l.contains t = false ∧ l.idxOf t = l.length := by
  have hn : t ∉ l := fun hm => by
    obtain ⟨i, hi, he⟩ := List.mem_iff_getElem.1 hm
    exact h i hi (by simp [hi, he])
  exact ⟨by simpa using hn, List.idxOf_eq_length hn⟩

theorem idx_at {l : List Int} {t : Int} {j : Nat} (hj : j < l.length) (h : ∀ i, i < j → l.getD i 0 ≠ t) (ht : l.getD j 0 = t) : l.contains t = true ∧ l.idxOf t = j := by
  have hg : l[j] = t := by simpa [hj] using ht
  have hm : t ∈ l := by rw [← hg]; exact List.getElem_mem hj
  refine ⟨by simpa using hm, ?_⟩
  have h1 : l.idxOf t < l.length := List.idxOf_lt_length_of_mem hm
  have h2 : l[l.idxOf t] = t := List.getElem_idxOf h1
  rcases Nat.lt_trichotomy (l.idxOf t) j with h3 | h3 | h3
  · exact absurd (by simp [h1, h2]) (h _ h3)
  · exact h3
  · have := List.not_of_lt_findIdx (p := (· == t)) (xs := l) (i := j) (by simpa [List.idxOf] using h3)
    simp [hg] at this

theorem by_pair (j : Nat) : byC [39, UInt8.ofNat (97 + j % 26)] = [.int .u8 39, .int .u8 (97 + (j : Int) % 26)] := by
  have h : (UInt8.ofNat (97 + j % 26)).toNat = 97 + j % 26 := by rw [UInt8.toNat_ofNat']; omega
  simp only [byC, List.map_cons, List.map_nil, h]
  rfl

section
variable {q f o : Nat} {ty : TypeId} {c : Array Value} {G : Value} {bk : List Nat} {w w' w1 w2 : World} {s s' : SX} {U T U' T' : Value} {us us' : List Int} {tx tx' : List UInt8}

set_option maxHeartbeats 600000 in
set_option maxRecDepth 100000 in
theorem wunk_so (h : Wt q f o ty c G bk w s U T us tx) (t : Int) (hl : us.length + tx.length ≤ 2000000000) :
    Calls Tryz.prog 186 #[.pointer (some ⟨q, 0, none⟩), .int .i32 t] w fun e w' => e = .returned (.tuple #[]) ∧ Wn q f o ty c G bk w U T w' s (if us.contains t then us else us ++ [t]) (tx ++ [39, UInt8.ofNat (97 + us.idxOf t % 26)]) := by
  have HW : Hid (Wt q f o ty c G bk w s U T us tx) := h
  obtain ⟨⟨-, c1, c2⟩, hfz⟩ := h.cells
  have f1 := hfz 1
  have f2 := hfz 2
  have hq := h.lt
  obtain ⟨ua, uc, rfl⟩ := ownsRow_len h.u
  obtain ⟨ta, tc, rfl⟩ := ownsRow_len h.t
  have hul := row_le h.u
  obtain ⟨us2, hus2⟩ : ∃ us2, (if us.contains t then us else us ++ [t]) = us2 := ⟨_, rfl⟩
  obtain ⟨tx2, htx2⟩ : ∃ tx2, tx ++ [39, UInt8.ofNat (97 + us.idxOf t % 26)] = tx2 := ⟨_, rfl⟩
  rw [hus2, htx2]
  have HUS : Hid ((if us.contains t then us else us ++ [t]) = us2) := hus2
  have HTX : Hid (tx ++ [39, UInt8.ofNat (97 + us.idxOf t % 26)] = tx2) := htx2
  clear h hfz hus2 htx2
  go_enter Tryz.func186, Tryz.ntmps186
  go_wp2_with fail
  go_loopg [4] us.length (fun k iv wr => ∃ j : Nat, iv = .int .i64 j ∧ j ≤ us.length ∧ k = us.length - j ∧ wr = w ∧ ∀ i, i < j → us.getD i 0 ≠ t)
  case atStart => exact ⟨0, rfl, Nat.zero_le _, rfl, rfl, fun i hi => by omega⟩
  case round =>
    obtain ⟨j, rfl, hj, hk, rfl, hno⟩ := hrel
    have HM : Hid (gk = us.length - j) := hk
    have HNo : Hid (∀ i, i < j → us.getD i 0 ≠ t) := hno
    clear hk hno
    -- how it goes on behind the loop
    by_cases hjl : j < us.length
    · obtain ⟨g, cap, hDe, cj, hg⟩ := tyAt HW.out.u hjl
      cases hDe
      obtain ⟨u, hu⟩ : ∃ u, us.getD j 0 = u := ⟨_, rfl⟩
      have HU : Hid (us.getD j 0 = u) := hu
      rw [hu] at cj
      clear hu
      have m0 : (j : Int) < (us.length : Int) := by omega
      by_cases hut : u = t
      · have HI : Hid (us.contains t = true ∧ us.idxOf t = j) := idx_at hjl HNo.out (HU.out.trans hut)
        subst hut
        have m1 : ((j : Int) == (us.length : Int)) = false := by simp; omega
        have hT := HW.out.t.alloc (.cells #[.int .u8 39, .int .u8 (97 + (j : Int) % 26)] 5)
        go_wp2_with (at_builtin; refine wpList_app slBy rfl (.tmp 46) (.tmp 51) rfl (q + 1) tx.length (byC tx) _ rfl (hT) ⟨wr.heap.size, 0, none⟩ 2 2 [.int .u8 39, .int .u8 (97 + (j : Int) % 26)] rfl rfl ?c1 ?c2 (by decide) ?b1 ?b2 ?b3 ?grow)
        case c1 => intro i v hi; exact cells_new _ rfl hi
        case c2 => intro v hv; simp at hv; rcases hv with rfl | rfl <;> rfl
        case b1 => unfold maxLen; omega
        case b2 => omega
        case b3 => simp; omega
        case grow =>
          intro v' w3 hown hgrow hv g' cap' hfm
          subst hfm
          have HTq : ∀ b, (Value.slice ta tx.length tc).ownBlock = some b → q + 1 ≤ b := fun b hb => (HW.out.t.lt b hb).1
          have hb2 : w3.heap[q]? = wr.heap[q]? := (hgrow.block q (by simp; omega) (fun e => by have := HTq q e.symm; omega)).trans (Below.heap_alloc _ _ _ hq)
          have k2 := World.cell?_of_block (w := wr) (a := ⟨q, 2, none⟩) hb2
          have z2 := World.frozen?_of_block (w := wr) (a := ⟨q, 2, none⟩) hb2
          rw [c2] at k2
          rw [f2] at z2
          have hq3 : q < w3.heap.size := Nat.lt_of_lt_of_le hq (Nat.le_trans (by simp) hgrow.size)
          have HN : Hid (Wn q f o ty c G bk wr (.slice (some ⟨g, 0, none⟩) us.length uc) (.slice ta tx.length tc) (w3.setCell ⟨q, 2, none⟩ (.slice (some ⟨g', 0, none⟩) (tx.length + 2) cap')) s us (tx ++ [39, UInt8.ofNat (97 + j % 26)])) := HW.out.text (l := [39, UInt8.ofNat (97 + j % 26)]) ((Fr.refl _ _).alloc _) hgrow (by rw [by_pair]; exact hown) (by simpa using hv)
          clear hown hgrow hv hb2 hT c2 f2 HTq
          go_wp2_with fail
          go_end0
          have e1 := HUS.out
          have e2 := HTX.out
          rw [HI.out.1] at e1
          rw [HI.out.2] at e2
          rw [← e1, ← e2]
          exact ⟨rfl, HN.out⟩
      · have m1 : (u != t) = true := by simpa using hut
        go_wp2_with fail
        go_roundg (us.length - (j + 1))
        case measure => rw [HM.out]; omega
        case rel => exact ⟨j + 1, by go_num, by omega, rfl, rfl, fun i hi => by
          by_cases he : i = j
          · subst he; rw [HU.out]; exact hut
          · exact HNo.out i (by omega)⟩
    · obtain rfl : j = us.length := by omega
      have HI : Hid (us.contains t = false ∧ us.idxOf t = us.length) := idx_len HNo.out
      have hU := HW.out.u.alloc (.cells #[.int .i32 t] 155)
      have HUq : Hid (∀ b, (Value.slice ua us.length uc).ownBlock = some b → q + 1 ≤ b) := fun b hb => (HW.out.u.lt b hb).1
      go_wp2_with (at_builtin; refine wpList_app slTy rfl (.tmp 36) (.tmp 38) rfl (q + 1) us.length (tyC us) _ rfl hU ⟨wr.heap.size, 0, none⟩ 1 1 [.int .i32 t] rfl rfl ?c1 ?c2 (by decide) ?b1 ?b2 ?b3 ?grow)
      case c1 => intro i v hi; exact cells_new _ rfl hi
      case c2 => intro v hv; simp at hv; rcases hv with rfl; rfl
      case b1 => unfold maxLen; omega
      case b2 => omega
      case b3 => simp; omega
      case grow =>
        intro v' w3 hown hgrow hv g' cap' hfm
        subst hfm
        have hb2 : w3.heap[q]? = wr.heap[q]? := (hgrow.block q (by simp; omega) (fun e => by have := HUq.out q e.symm; omega)).trans (Below.heap_alloc _ _ _ hq)
        have k1 := World.cell?_of_block (w := wr) (a := ⟨q, 1, none⟩) hb2
        have z1 := World.frozen?_of_block (w := wr) (a := ⟨q, 1, none⟩) hb2
        rw [c1] at k1
        rw [f1] at z1
        have hq3 : q < w3.heap.size := Nat.lt_of_lt_of_le hq (Nat.le_trans (by simp) hgrow.size)
        obtain ⟨U4, T4, hW4, hF4, hO4⟩ := HW.out.unk (t := t) ((Fr.refl _ _).alloc _) hgrow hown (by simpa using hv)
        obtain ⟨⟨-, -, d2⟩, -⟩ := hW4.cells
        have k2 := World.cell?_of_block (w := wr) (a := ⟨q, 2, none⟩) hb2
        have z2 := World.frozen?_of_block (w := wr) (a := ⟨q, 2, none⟩) hb2
        rw [c2] at k2
        rw [f2] at z2
        have hT4 : T4 = .slice ta tx.length tc := by
          have e1 := hW4.blk
          rw [blk_set (i := 1) (v := .slice (some ⟨g', 0, none⟩) (us.length + 1) cap') (hb2.trans HW.out.blk) rfl] at e1
          simp only [List.setIfInBounds_toArray, List.set_cons_succ, List.set_cons_zero, Option.some.injEq, Obj.cells.injEq, and_true] at e1
          have e2 := congrArg (fun a : Array Value => a[2]?) e1
          simpa using e2.symm
        subst hT4
        have hTT := hW4.t.alloc (.cells #[.int .u8 39, .int .u8 (97 + (us.length : Int) % 26)] 5)
        have HW4 : Hid (Wt q f o ty c G bk (w3.setCell ⟨q, 1, none⟩ (.slice (some ⟨g', 0, none⟩) (us.length + 1) cap')) s U4 (.slice ta tx.length tc) (us ++ [t]) tx) := hW4
        have HF4 : Hid (Fr (wown q bk (.slice ua us.length uc) (.slice ta tx.length tc)) wr (w3.setCell ⟨q, 1, none⟩ (.slice (some ⟨g', 0, none⟩) (us.length + 1) cap'))) := hF4
        have HO4 : Hid (∀ b, wown q bk U4 (.slice ta tx.length tc) b → wown q bk (.slice ua us.length uc) (.slice ta tx.length tc) b ∨ wr.heap.size ≤ b) := hO4
        have HTq : Hid (∀ b, (Value.slice ta tx.length tc).ownBlock = some b → q + 1 ≤ b) := fun b hb => (HW.out.t.lt b hb).1
        clear hown hgrow hv hb2 hU c1 f1 c2 f2 hW4 hF4 hO4 d2
        go_wp2_with (at_builtin; refine wpList_app slBy rfl (.tmp 46) (.tmp 51) rfl (q + 1) tx.length (byC tx) _ rfl hTT ⟨w3.heap.size, 0, none⟩ 2 2 [.int .u8 39, .int .u8 (97 + (us.length : Int) % 26)] rfl rfl ?c1 ?c2 (by decide) ?b1 ?b2 ?b3 ?grow)
        case c1 => intro i v hi; exact cells_new _ (by simp) hi
        case c2 => intro v hv; simp at hv; rcases hv with rfl | rfl <;> rfl
        case b1 => unfold maxLen; omega
        case b2 => omega
        case b3 => simp; omega
        case grow =>
          intro v5 w5 hown hgrow hv g5 cap5 hfm
          subst hfm
          have hb5 : w5.heap[q]? = (w3.setCell ⟨q, 1, none⟩ (.slice (some ⟨g', 0, none⟩) (us.length + 1) cap')).heap[q]? := (hgrow.block q (by simp; omega) (fun e => by have := HTq.out q e.symm; omega)).trans (Below.heap_alloc _ _ _ (by simpa using hq3))
          obtain ⟨⟨-, -, d2⟩, hfz4⟩ := HW4.out.cells
          have k5 := World.cell?_of_block (w := w3.setCell ⟨q, 1, none⟩ (.slice (some ⟨g', 0, none⟩) (us.length + 1) cap')) (a := ⟨q, 2, none⟩) hb5
          have z5 := World.frozen?_of_block (w := w3.setCell ⟨q, 1, none⟩ (.slice (some ⟨g', 0, none⟩) (us.length + 1) cap')) (a := ⟨q, 2, none⟩) hb5
          rw [d2] at k5
          rw [hfz4 2] at z5
          have hq5 : q < w5.heap.size := Nat.lt_of_lt_of_le hq3 (Nat.le_trans (by simp) hgrow.size)
          have HN : Hid (Wn q f o ty c G bk wr (.slice ua us.length uc) (.slice ta tx.length tc) (w5.setCell ⟨q, 2, none⟩ (.slice (some ⟨g5, 0, none⟩) (tx.length + 2) cap5)) s (us ++ [t]) (tx ++ [39, UInt8.ofNat (97 + us.length % 26)])) :=
            Wn.trans HF4.out HO4.out (HW4.out.text (l := [39, UInt8.ofNat (97 + us.length % 26)]) ((Fr.refl _ _).alloc _) hgrow (by rw [by_pair]; exact hown) (by simpa using hv))
          clear hown hgrow hv hb5 hTT k2 z2 k1 z1 hfz4 d2
          go_wp2_with fail
          go_end0
          have e1 := HUS.out
          have e2 := HTX.out
          rw [HI.out.1] at e1
          rw [HI.out.2] at e2
          rw [← e1, ← e2]
          exact ⟨rfl, HN.out⟩
end
end Go.Proofs.YtklimomeendajaaGreatDoor

/- write, both. -/
namespace Go.Proofs.YtklimomeendajaaGreatDoor
open Go.RowKit

section
variable {q f o : Nat} {ty : TypeId} {c : Array Value} {G : Value} {bk : List Nat} {w w' w1 w2 : World} {s s' : SX} {U T U' T' : Value} {us us' : List Int} {tx tx' : List UInt8}

/-- A block that is none of the writer's lies as it lay. -/
theorem wkeep {k : Nat} {ob : Obj} (hF : Fr (wown q bk U T) w w') (hb : w.heap[k]? = some ob) (hk : ¬ wown q bk U T k) : w'.heap[k]? = some ob := (hF.block k (blk_lt hb) hk).trans hb

theorem Wt.nown (h : Wt q f o ty c G bk w s U T us tx) {k : Nat} (hk : w.heap.size ≤ k) : ¬ wown q bk U T k := fun h' => by have := h.own_lt k h'; omega

theorem nown_next {k : Nat} (hk : ¬ wown q bk U T k) (hl : k < w.heap.size) (hO : ∀ b, wown q bk U' T' b → wown q bk U T b ∨ w.heap.size ≤ b) : ¬ wown q bk U' T' k := fun h => by
  rcases hO k h with h1 | h1
  · exact hk h1
  · omega

variable (q f o ty c G bk) in
/-- The contract of write. -/
def WCt (n : Nat) : Prop := ∀ (s : SX) (t : Int) (us : List Int) (tx : List UInt8) (y : SX × List Int × List UInt8), xWr n s t us tx = some y → ∀ (w : World) (U T : Value), Wt q f o ty c G bk w s U T us tx →
    Calls Tryz.prog 124 #[.pointer (some ⟨q, 0, none⟩), .int .i32 t] w fun e w' => e = .returned (.tuple #[]) ∧ Wn q f o ty c G bk w U T w' y.1 y.2.1 y.2.2

theorem xWr_len {n : Nat} {s : SX} {t : Int} {us : List Int} {tx : List UInt8} {y : SX × List Int × List UInt8} (h : xWr n s t us tx = some y) : us.length + tx.length ≤ 1000000000 := by
  cases n with
  | zero => cases h
  | succ n =>
    rw [xWr] at h
    split at h
    · cases h
    · omega

set_option maxHeartbeats 1000000 in
set_option maxRecDepth 100000 in
theorem both_so {n : Nat} (ih : WCt q f o ty c G bk n) (h : Wt q f o ty c G bk w s U T us tx) {a b : Int} {sg : List UInt8} {y z : SX × List Int × List UInt8} (hl : tx.length ≤ 1000000000) (hy : xWr n s a us (tx ++ [40]) = some y) (hyl : y.2.2.length ≤ 1000000000) (hsg : sg.length ≤ 10) (hz : xWr n y.1 b y.2.1 (y.2.2 ++ sg) = some z) (hzl : z.2.2.length ≤ 1000000000) :
    Calls Tryz.prog 185 #[.pointer (some ⟨q, 0, none⟩), .agg #[.int .i32 a, .int .i32 b], .string (bz sg)] w fun e w' => e = .returned (.tuple #[]) ∧ Wn q f o ty c G bk w U T w' z.1 z.2.1 (z.2.2 ++ [41]) := by
  have HW0 : Hid (Wt q f o ty c G bk (w.alloc (.cells #[.int .i32 a, .int .i32 b] 275)) s U T us tx) := h.fr ((Fr.refl _ _).alloc _)
  have HB0 : Hid ((w.alloc (.cells #[.int .i32 a, .int .i32 b] 275)).heap[w.heap.size]? = some (.cells #[.int .i32 a, .int .i32 b] 275 (0, 0))) := blk_new w _
  have HN0 : Hid (¬ wown q bk U T w.heap.size) := h.nown (Nat.le_refl _)
  have HF0 : Hid (Fr (wown q bk U T) w (w.alloc (.cells #[.int .i32 a, .int .i32 b] 275))) := (Fr.refl _ _).alloc _
  have HY : Hid (xWr n s a us (tx ++ [40]) = some y) := hy
  have HZ : Hid (xWr n y.1 b y.2.1 (y.2.2 ++ sg) = some z) := hz
  have HL : Hid (tx.length ≤ 1000000000 ∧ y.2.2.length ≤ 1000000000 ∧ sg.length ≤ 10 ∧ z.2.2.length ≤ 1000000000) := ⟨hl, hyl, hsg, hzl⟩
  clear h hy hz hl hyl hsg hzl
  go_enter Tryz.func185, Tryz.ntmps185
  go_wp2_with fail
  refine (wadd_so HW0.out [40] (by have := HL.out; simp; omega)).mono ?_
  rintro e1 w1 ⟨rfl, U1, T1, hW1, hF1, hO1⟩
  have HW1 : Hid (Wt q f o ty c G bk w1 s U1 T1 us (tx ++ [40])) := hW1
  have HB1 : Hid (w1.heap[w.heap.size]? = some (.cells #[.int .i32 a, .int .i32 b] 275 (0, 0))) := wkeep hF1 HB0.out HN0.out
  have HN1 : Hid (¬ wown q bk U1 T1 w.heap.size) := nown_next HN0.out (blk_lt HB0.out) hO1
  have HF1 : Hid (Fr (wown q bk U T) w w1) := HF0.out.trans hF1 (fun _ h => .inl h)
  have HO1 : Hid (∀ b, wown q bk U1 T1 b → wown q bk U T b ∨ w.heap.size ≤ b) := fun b hb => by rcases hO1 b hb with h | h; exact .inl h; right; simp at h; omega
  obtain ⟨p0, p1, -, -⟩ := cells2 HB1.out
  have l1 := blk_lt HB1.out
  clear hW1 hF1 hO1 HW0 HB0 HN0 HF0
  go_wp2_with fail
  refine (ih _ _ _ _ _ HY.out w1 U1 T1 HW1.out).mono ?_
  rintro e2 w2 ⟨rfl, U2, T2, hW2, hF2, hO2⟩
  have HW2 : Hid (Wt q f o ty c G bk w2 y.1 U2 T2 y.2.1 y.2.2) := hW2
  have HB2 : Hid (w2.heap[w.heap.size]? = some (.cells #[.int .i32 a, .int .i32 b] 275 (0, 0))) := wkeep hF2 HB1.out HN1.out
  have HN2 : Hid (¬ wown q bk U2 T2 w.heap.size) := nown_next HN1.out (blk_lt HB1.out) hO2
  have HF2 : Hid (Fr (wown q bk U T) w w2) := HF1.out.trans hF2 HO1.out
  have HO2 : Hid (∀ b, wown q bk U2 T2 b → wown q bk U T b ∨ w.heap.size ≤ b) := fun b hb => by rcases hO2 b hb with h | h; exact HO1.out b h; have := HF1.out.size; right; omega
  clear hW2 hF2 hO2 HW1 HB1 HN1 HF1 HO1 p0 p1 l1
  go_wp2_with fail
  refine (wadd_so HW2.out sg (by have := HL.out; omega)).mono ?_
  rintro e3 w3 ⟨rfl, U3, T3, hW3, hF3, hO3⟩
  have HW3 : Hid (Wt q f o ty c G bk w3 y.1 U3 T3 y.2.1 (y.2.2 ++ sg)) := hW3
  have HB3 : Hid (w3.heap[w.heap.size]? = some (.cells #[.int .i32 a, .int .i32 b] 275 (0, 0))) := wkeep hF3 HB2.out HN2.out
  have HF3 : Hid (Fr (wown q bk U T) w w3) := HF2.out.trans hF3 HO2.out
  have HO3 : Hid (∀ b, wown q bk U3 T3 b → wown q bk U T b ∨ w.heap.size ≤ b) := fun b hb => by rcases hO3 b hb with h | h; exact HO2.out b h; have := HF2.out.size; right; omega
  obtain ⟨p0, p1, -, -⟩ := cells2 HB3.out
  have l1 := blk_lt HB3.out
  clear hW3 hF3 hO3 HW2 HB2 HN2 HF2 HO2
  go_wp2_with fail
  refine (ih _ _ _ _ _ HZ.out w3 U3 T3 HW3.out).mono ?_
  rintro e4 w4 ⟨rfl, U4, T4, hW4, hF4, hO4⟩
  have HW4 : Hid (Wt q f o ty c G bk w4 z.1 U4 T4 z.2.1 z.2.2) := hW4
  have HF4 : Hid (Fr (wown q bk U T) w w4) := HF3.out.trans hF4 HO3.out
  have HO4 : Hid (∀ b, wown q bk U4 T4 b → wown q bk U T b ∨ w.heap.size ≤ b) := fun b hb => by rcases hO4 b hb with h | h; exact HO3.out b h; have := HF3.out.size; right; omega
  clear hW4 hF4 hO4 HW3 HB3 HF3 HO3 p0 p1 l1
  go_wp2_with fail
  refine (wadd_so HW4.out [41] (by have := HL.out; simp; omega)).mono ?_
  rintro e5 w5 ⟨rfl, hN5⟩
  have HN5 : Hid (Wn q f o ty c G bk w U T w5 z.1 z.2.1 (z.2.2 ++ [41])) := Wn.trans HF4.out HO4.out hN5
  clear hN5
  go_wp2_with fail
  go_end0
  exact ⟨rfl, HN5.out⟩

set_option maxHeartbeats 1000000 in
set_option maxRecDepth 100000 in
theorem write_step {n : Nat} (ih : WCt q f o ty c G bk n) : WCt q f o ty c G bk (n + 1) := by
  intro s t us tx y hx w U T h
  rw [xWr] at hx
  split at hx
  · cases hx
  rename_i hlen
  obtain ⟨⟨s1, l⟩, hp, hx⟩ := bindO hx
  obtain ⟨x, hxt, hx⟩ := bindO hx
  obtain ⟨⟨c0, -, -⟩, -⟩ := h.cells
  have hq := h.lt
  obtain ⟨b, m, ha⟩ := adr_ex bk t
  have HW : Hid (Wt q f o ty c G bk w s U T us tx) := h
  have HP : Hid (xParts n s t = some (s1, l)) := hp
  have HX : Hid (xAt s1 t = some x) := hxt
  have HD : Hid (adr bk t = ⟨b, m, none⟩) := ha
  have HL : Hid (us.length + tx.length ≤ 1000000000) := by show us.length + tx.length ≤ 1000000000; omega
  clear h hp hxt ha hlen
  obtain ⟨kv, hkv⟩ : ∃ kv : Int, (x.k : Int) = kv := ⟨_, rfl⟩
  have HK : Hid ((x.k : Int) = kv) := hkv
  clear hkv
  go_enter Tryz.func124, Tryz.ntmps124
  go_wp2_with fail
  refine (parts_so HW.out.so HP.out).mono ?_
  rintro e1 w1 ⟨rfl, hS1, hF1⟩
  have HW1 : Hid (Wt q f o ty c G bk (w1.alloc (.cells #[.int .i32 (l[0]?.getD 0), .int .i32 (l[1]?.getD 0)] 275)) s1 U T us tx) := (HW.out.store hS1 hF1).fr ((Fr.refl _ _).alloc _)
  have HB1 : Hid ((w1.alloc (.cells #[.int .i32 (l[0]?.getD 0), .int .i32 (l[1]?.getD 0)] 275)).heap[w1.heap.size]? = some (.cells #[.int .i32 (l[0]?.getD 0), .int .i32 (l[1]?.getD 0)] 275 (0, 0))) := blk_new w1 _
  have HN1 : Hid (¬ wown q bk U T w1.heap.size) := (HW.out.store hS1 hF1).nown (Nat.le_refl _)
  have HF1 : Hid (Fr (wown q bk U T) w (w1.alloc (.cells #[.int .i32 (l[0]?.getD 0), .int .i32 (l[1]?.getD 0)] 275))) := Fr.alloc (hF1.mono (fun b hb => .inl (.inr (.inl hb)))) _
  have hWS := HW.out.store hS1 hF1
  obtain ⟨⟨c0', -, -⟩, -⟩ := hWS.cells
  have hq1 := hWS.lt
  clear hS1 hF1 hWS
  go_wp2_with fail
  generalize w1.alloc (.cells #[.int .i32 (l[0]?.getD 0), .int .i32 (l[1]?.getD 0)] 275) = w2 at *
  generalize w1.heap.size = pb at *
  refine (at_so HW1.out.so HX.out HD.out).mono ?_
  rintro e2 w2' ⟨rfl, rfl⟩
  obtain ⟨hb2, d0, -⟩ := HW1.out.so.six HX.out HD.out
  rw [HK.out] at d0
  have p0 := cellP HB1.out (j := 0) (by decide)
  have p1 := cellP HB1.out (j := 1) (by decide)
  have lpb := blk_lt HB1.out
  clear c0 c0' hq1
  by_cases h1 : x.k = 1
  · rw [if_pos h1] at hx
    have HY : Hid (y = (s1, us, tx ++ [105, 110, 116])) := by show y = _; simpa using hx.symm
    obtain rfl : kv = 1 := by have := HK.out; omega
    clear hx
    go_wp2_with fail
    refine (wadd_so HW1.out [105, 110, 116] (by have := HL.out; simp; omega)).mono ?_
    rintro e2 w3 ⟨rfl, hN⟩
    have HN : Hid (Wn q f o ty c G bk w U T w3 s1 us (tx ++ [105, 110, 116])) := hN.pre HF1.out
    clear hN
    go_wp2_with fail
    (first | go_end0 | ((try simp only [Exit.inBlock, Exit.then]); refine bodyPost_ret (results_none rfl _ _ _) rfl ?_))
    rw [HY.out]
    exact ⟨rfl, HN.out⟩
  rw [if_neg h1] at hx
  by_cases h2 : x.k = 2
  · rw [if_pos h2] at hx
    have HY : Hid (y = (s1, us, tx ++ [98, 111, 111, 108])) := by show y = _; simpa using hx.symm
    obtain rfl : kv = 2 := by have := HK.out; omega
    clear hx
    go_wp2_with fail
    refine (wadd_so HW1.out [98, 111, 111, 108] (by have := HL.out; simp; omega)).mono ?_
    rintro e2 w3 ⟨rfl, hN⟩
    have HN : Hid (Wn q f o ty c G bk w U T w3 s1 us (tx ++ [98, 111, 111, 108])) := hN.pre HF1.out
    clear hN
    go_wp2_with fail
    (first | go_end0 | ((try simp only [Exit.inBlock, Exit.then]); refine bodyPost_ret (results_none rfl _ _ _) rfl ?_))
    rw [HY.out]
    exact ⟨rfl, HN.out⟩
  rw [if_neg h2] at hx
  by_cases h3 : x.k = 3
  · rw [if_pos h3] at hx
    obtain ⟨y1, hy1, hx⟩ := bindO hx
    split at hx
    · cases hx
    rename_i hyl
    have HY : Hid (y = (y1.1, y1.2.1, y1.2.2 ++ [32, 108, 105, 115, 116])) := by show y = _; simpa using hx.symm
    have HY1 : Hid (xWr n s1 (l.getD 0 0) us tx = some y1) := hy1
    have HYL : Hid (y1.2.2.length ≤ 1000000000) := by show y1.2.2.length ≤ 1000000000; omega
    obtain rfl : kv = 3 := by have := HK.out; omega
    obtain ⟨pa, hpa⟩ : ∃ pa, l.getD 0 0 = pa := ⟨_, rfl⟩
    rw [hpa] at p0
    have HPA : Hid (l.getD 0 0 = pa) := hpa
    clear hx hy1 hyl hpa
    go_wp2_with fail
    refine (ih _ _ _ _ _ (HPA.out ▸ HY1.out) _ U T HW1.out).mono ?_
    rintro e2 w3 ⟨rfl, U3, T3, hW3, hF3, hO3⟩
    have HW3 : Hid (Wt q f o ty c G bk w3 y1.1 U3 T3 y1.2.1 y1.2.2) := hW3
    have HF3 : Hid (Fr (wown q bk U T) w w3) := HF1.out.trans hF3 (fun _ h => .inl h)
    have HO3 : Hid (∀ b, wown q bk U3 T3 b → wown q bk U T b ∨ w.heap.size ≤ b) := fun b hb => by rcases hO3 b hb with h | h; exact .inl h; have := HF1.out.size; right; omega
    clear hW3 hF3 hO3
    go_wp2_with fail
    refine (wadd_so HW3.out [32, 108, 105, 115, 116] (by have := HYL.out; simp; omega)).mono ?_
    rintro e4 w4 ⟨rfl, hN⟩
    have HN : Hid (Wn q f o ty c G bk w U T w4 y1.1 y1.2.1 (y1.2.2 ++ [32, 108, 105, 115, 116])) := Wn.trans HF3.out HO3.out hN
    clear hN
    go_wp2_with fail
    (first | go_end0 | ((try simp only [Exit.inBlock, Exit.then]); refine bodyPost_ret (results_none rfl _ _ _) rfl ?_))
    rw [HY.out]
    exact ⟨rfl, HN.out⟩
  rw [if_neg h3] at hx
  by_cases h4 : x.k = 4
  · rw [if_pos h4] at hx
    obtain ⟨y1, hy1, hx⟩ := bindO hx
    split at hx
    · cases hx
    rename_i hyl
    have HY : Hid (y = (y1.1, y1.2.1, y1.2.2 ++ [32, 99, 111, 110, 116])) := by show y = _; simpa using hx.symm
    have HY1 : Hid (xWr n s1 (l.getD 0 0) us tx = some y1) := hy1
    have HYL : Hid (y1.2.2.length ≤ 1000000000) := by show y1.2.2.length ≤ 1000000000; omega
    obtain rfl : kv = 4 := by have := HK.out; omega
    obtain ⟨pa, hpa⟩ : ∃ pa, l.getD 0 0 = pa := ⟨_, rfl⟩
    rw [hpa] at p0
    have HPA : Hid (l.getD 0 0 = pa) := hpa
    clear hx hy1 hyl hpa
    go_wp2_with fail
    refine (ih _ _ _ _ _ (HPA.out ▸ HY1.out) _ U T HW1.out).mono ?_
    rintro e2 w3 ⟨rfl, U3, T3, hW3, hF3, hO3⟩
    have HW3 : Hid (Wt q f o ty c G bk w3 y1.1 U3 T3 y1.2.1 y1.2.2) := hW3
    have HF3 : Hid (Fr (wown q bk U T) w w3) := HF1.out.trans hF3 (fun _ h => .inl h)
    have HO3 : Hid (∀ b, wown q bk U3 T3 b → wown q bk U T b ∨ w.heap.size ≤ b) := fun b hb => by rcases hO3 b hb with h | h; exact .inl h; have := HF1.out.size; right; omega
    clear hW3 hF3 hO3
    go_wp2_with fail
    refine (wadd_so HW3.out [32, 99, 111, 110, 116] (by have := HYL.out; simp; omega)).mono ?_
    rintro e4 w4 ⟨rfl, hN⟩
    have HN : Hid (Wn q f o ty c G bk w U T w4 y1.1 y1.2.1 (y1.2.2 ++ [32, 99, 111, 110, 116])) := Wn.trans HF3.out HO3.out hN
    clear hN
    go_wp2_with fail
    (first | go_end0 | ((try simp only [Exit.inBlock, Exit.then]); refine bodyPost_ret (results_none rfl _ _ _) rfl ?_))
    rw [HY.out]
    exact ⟨rfl, HN.out⟩
  rw [if_neg h4] at hx
  by_cases h56 : x.k = 5 ∨ x.k = 6
  · rw [if_pos h56] at hx
    obtain ⟨y1, hy1, hx⟩ := bindO hx
    split at hx
    · cases hx
    rename_i hyl
    have HY1 : Hid (xWr n s1 (l.getD 0 0) us (tx ++ [40]) = some y1) := hy1
    have HYL : Hid (y1.2.2.length ≤ 1000000000) := by show y1.2.2.length ≤ 1000000000; omega
    clear hy1 hyl
    by_cases h5 : x.k = 5
    · rw [if_pos h5] at hx
      obtain ⟨z1, hz1, hx⟩ := bindO hx
      split at hx
      · cases hx
      rename_i hzl
      have HY : Hid (y = (z1.1, z1.2.1, z1.2.2 ++ [41])) := by show y = _; simpa using hx.symm
      have HZ1 : Hid (xWr n y1.1 (l.getD 1 0) y1.2.1 (y1.2.2 ++ [32, 42, 32]) = some z1) := hz1
      obtain rfl : kv = 5 := by have := HK.out; omega
      obtain ⟨pa, hpa⟩ : ∃ pa, l.getD 0 0 = pa := ⟨_, rfl⟩
      obtain ⟨pc, hpc⟩ : ∃ pc, l.getD 1 0 = pc := ⟨_, rfl⟩
      rw [hpa] at p0
      rw [hpc] at p1
      have HPA : Hid (l.getD 0 0 = pa) := hpa
      have HPC : Hid (l.getD 1 0 = pc) := hpc
      have HB : Hid _ := both_so ih HW1.out (a := pa) (b := pc) (sg := [32, 42, 32]) (by have := HL.out; omega) (HPA.out ▸ HY1.out) HYL.out (by decide) (HPC.out ▸ HZ1.out) (by omega)
      clear hx hz1 hzl hpa hpc
      go_wp2_with fail
      refine Calls.mono HB.out ?_
      rintro e2 w3 ⟨rfl, hN⟩
      have HN : Hid (Wn q f o ty c G bk w U T w3 z1.1 z1.2.1 (z1.2.2 ++ [41])) := hN.pre HF1.out
      clear hN HB
      go_wp2_with fail
      (first | go_end0 | ((try simp only [Exit.inBlock, Exit.then]); refine bodyPost_ret (results_none rfl _ _ _) rfl ?_))
      rw [HY.out]
      exact ⟨rfl, HN.out⟩
    · rw [if_neg h5] at hx
      obtain ⟨z1, hz1, hx⟩ := bindO hx
      split at hx
      · cases hx
      rename_i hzl
      have HY : Hid (y = (z1.1, z1.2.1, z1.2.2 ++ [41])) := by show y = _; simpa using hx.symm
      have HZ1 : Hid (xWr n y1.1 (l.getD 1 0) y1.2.1 (y1.2.2 ++ [32, 45, 62, 32]) = some z1) := hz1
      obtain rfl : kv = 6 := by have := HK.out; omega
      obtain ⟨pa, hpa⟩ : ∃ pa, l.getD 0 0 = pa := ⟨_, rfl⟩
      obtain ⟨pc, hpc⟩ : ∃ pc, l.getD 1 0 = pc := ⟨_, rfl⟩
      rw [hpa] at p0
      rw [hpc] at p1
      have HPA : Hid (l.getD 0 0 = pa) := hpa
      have HPC : Hid (l.getD 1 0 = pc) := hpc
      have HB : Hid _ := both_so ih HW1.out (a := pa) (b := pc) (sg := [32, 45, 62, 32]) (by have := HL.out; omega) (HPA.out ▸ HY1.out) HYL.out (by decide) (HPC.out ▸ HZ1.out) (by omega)
      clear hx hz1 hzl hpa hpc
      go_wp2_with fail
      refine Calls.mono HB.out ?_
      rintro e2 w3 ⟨rfl, hN⟩
      have HN : Hid (Wn q f o ty c G bk w U T w3 z1.1 z1.2.1 (z1.2.2 ++ [41])) := hN.pre HF1.out
      clear hN HB
      go_wp2_with fail
      (first | go_end0 | ((try simp only [Exit.inBlock, Exit.then]); refine bodyPost_ret (results_none rfl _ _ _) rfl ?_))
      rw [HY.out]
      exact ⟨rfl, HN.out⟩
  rw [if_neg h56] at hx
  by_cases h0 : x.k = 0
  · rw [if_pos h0] at hx
    have HY : Hid (y = (s1, (if us.contains t then us else us ++ [t]), tx ++ [39, UInt8.ofNat (97 + us.idxOf t % 26)])) := by show y = _; exact (Option.some.inj hx).symm
    obtain rfl : kv = 0 := by have := HK.out; omega
    clear hx
    go_wp2_with fail
    refine (wunk_so HW1.out t (by have := HL.out; omega)).mono ?_
    rintro e2 w4 ⟨rfl, hN⟩
    have HN : Hid (Wn q f o ty c G bk w U T w4 s1 (if us.contains t then us else us ++ [t]) (tx ++ [39, UInt8.ofNat (97 + us.idxOf t % 26)])) := hN.pre HF1.out
    clear hN
    go_wp2_with fail
    (first | go_end0 | ((try simp only [Exit.inBlock, Exit.then]); refine bodyPost_ret (results_none rfl _ _ _) rfl ?_))
    rw [HY.out]
    exact ⟨rfl, HN.out⟩
  rw [if_neg h0] at hx
  have HY : Hid (y = (s1, us, tx)) := by show y = _; exact (Option.some.inj hx).symm
  have k0 : (kv == 0) = false := by have := HK.out; simp; omega
  have k1 : (kv == 1) = false := by have := HK.out; simp; omega
  have k2 : (kv == 2) = false := by have := HK.out; simp; omega
  have k3 : (kv == 3) = false := by have := HK.out; simp; omega
  have k4 : (kv == 4) = false := by have := HK.out; simp; omega
  have k5 : (kv == 5) = false := by have := HK.out; simp; omega
  have k6 : (kv == 6) = false := by have := HK.out; simp; omega
  have HN : Hid (Wn q f o ty c G bk w U T w2' s1 us tx) := (Wn.refl HW1.out).pre HF1.out
  clear hx
  go_wp2_with fail
  (first | go_end0 | ((try simp only [Exit.inBlock, Exit.then]); refine bodyPost_ret (results_none rfl _ _ _) rfl ?_))
  rw [HY.out]
  exact ⟨rfl, HN.out⟩

theorem write_all : ∀ n, WCt q f o ty c G bk n
  | 0 => fun _ _ _ _ _ h => by cases h
  | n + 1 => write_step (write_all n)
end
end Go.Proofs.YtklimomeendajaaGreatDoor
