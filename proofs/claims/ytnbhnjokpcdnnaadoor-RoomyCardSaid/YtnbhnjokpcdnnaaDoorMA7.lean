import Derived.Deep.LoopGhost
import Derived.Test.YtnbhnjokpcdnnaaDoorMA3
import Derived.Test.YtnbhnjokpcdnnaaDoorMA0
import Derived.Deep.QuietTactic
import Derived.BigQuiet
set_option linter.unusedVariables false
set_option linter.unusedSimpArgs false
namespace Go.Proofs.YtnbhnjokpcdnnaaDoor
open Go.RowKit

/-- A text in memory. -/
abbrev bs (l : List UInt8) : ByteArray := ⟨l.toArray⟩

def sown (p : Nat) (L N : Value) (b : Nat) : Prop := b = p ∨ L.ownBlock = some b ∨ N.ownBlock = some b

/-- The two tables of package words. -/
structure KW (w : World) : Prop where
  k : ∀ i, i < 20 → w.cell? ⟨0, i, none⟩ = some (.string (bs (kwList.getD i [])))
  s : ∀ i, i < 13 → w.cell? ⟨1, i, none⟩ = some (.string (bs (sgList.getD i [])))

structure Sp (w : World) (p : Nat) (t : List UInt8) (s : SS) (L N : Value) : Prop where
  blk : w.heap[p]? = some (.cells #[.string (bs t), .int .i64 s.pos, L, N] 60 (0, 0))
  l : w.ownsRow (p + 1) 73 2 L s.ws.length (wordCells s.ws)
  n : w.ownsRow (p + 1) 9 1 N s.names.length (s.names.map fun x => .string (bs x))
  ln : ∀ b, L.ownBlock = some b → N.ownBlock ≠ some b
  pos : s.pos ≤ t.length
  len : t.length ≤ 240
  kw : KW w
  two : 2 ≤ p

section
variable {w w' : World} {p : Nat} {t : List UInt8} {s s' : SS} {L N : Value}

theorem Sp.lt (h : Sp w p t s L N) : p < w.heap.size := (Array.getElem?_eq_some_iff.1 h.blk).1

theorem Sp.own_ge (h : Sp w p t s L N) : ∀ b, sown p L N b → p ≤ b ∧ b < w.heap.size := by
  rintro b (rfl | hb | hb)
  · exact ⟨Nat.le_refl _, h.lt⟩
  · have := h.l.lt b hb; omega
  · have := h.n.lt b hb; omega

theorem KW.fr {X : Nat → Prop} (h : KW w) (hF : Fr X w w') (hX : ∀ b, X b → 2 ≤ b) : KW w' :=
  ⟨fun i hi => (World.cell?_of_block (hF.block 0 (World.block_lt_of_cell? w _ (h.k i hi)) (fun e => by have := hX 0 e; omega))).trans (h.k i hi),
   fun i hi => (World.cell?_of_block (hF.block 1 (World.block_lt_of_cell? w _ (h.s i hi)) (fun e => by have := hX 1 e; omega))).trans (h.s i hi)⟩

theorem Sp.fr (h : Sp w p t s L N) (hF : Fr (fun _ => False) w w') : Sp w' p t s L N := by
  have hb : ∀ b, sown p L N b → w'.heap[b]? = w.heap[b]? := fun b hb => hF.block b (h.own_ge b hb).2 id
  exact ⟨(hb p (.inl rfl)).trans h.blk, ownsRow_block h.l fun b h' => hb b (.inr (.inl h')), ownsRow_block h.n fun b h' => hb b (.inr (.inr h')), h.ln, h.pos, h.len, h.kw.fr hF (fun _ h => h.elim), h.two⟩

theorem Sp.cells (h : Sp w p t s L N) : (w.cell? ⟨p, 0, none⟩ = some (.string (bs t)) ∧ w.cell? ⟨p, 1, none⟩ = some (.int .i64 s.pos) ∧ w.cell? ⟨p, 2, none⟩ = some L ∧ w.cell? ⟨p, 3, none⟩ = some N) ∧ ∀ i, w.frozen? ⟨p, i, none⟩ = false := by
  have hb := h.blk
  simp [World.cell?, World.frozen?, hb]
end

def Sx (p : Nat) (t : List UInt8) (w0 : World) (L0 N0 : Value) (w : World) (L N : Value) (s : SS) : Prop :=
  Sp w p t s L N ∧ Fr (sown p L0 N0) w0 w ∧ ∀ b, sown p L N b → sown p L0 N0 b ∨ w0.heap.size ≤ b

def Sn (p : Nat) (t : List UInt8) (w : World) (L N : Value) (w' : World) (s' : SS) : Prop := ∃ L' N', Sx p t w L N w' L' N' s'

section
variable {p : Nat} {t : List UInt8} {w0 : World} {L0 N0 : Value} {w w' : World} {L N : Value} {s s' : SS}

theorem Sx.start (h : Sp w p t s L N) : Sx p t w L N w L N s := ⟨h, Fr.refl _ _, fun _ h => .inl h⟩

theorem Sx.go (h : Sx p t w0 L0 N0 w L N s) (hN : Sn p t w L N w' s') : Sn p t w0 L0 N0 w' s' := by
  obtain ⟨S1, M1, hR, hF, hO⟩ := hN
  refine ⟨S1, M1, hR, h.2.1.trans hF h.2.2, fun b hb => ?_⟩
  rcases hO b hb with h1 | h1
  · exact h.2.2 b h1
  · have := h.2.1.size; right; omega

theorem Sx.sn (h : Sx p t w0 L0 N0 w L N s) : Sn p t w0 L0 N0 w s := ⟨L, N, h⟩

theorem Sx.fr (h : Sx p t w0 L0 N0 w L N s) (hF : Fr (fun _ => False) w w') : Sx p t w0 L0 N0 w' L N s := ⟨h.1.fr hF, h.2.1.trans hF (fun _ h => h.elim), h.2.2⟩

/-- The place is moved. -/
theorem Sx.move (h : Sx p t w0 L0 N0 w L N s) (n : Nat) (hn : n ≤ t.length) : Sx p t w0 L0 N0 (w.setCell ⟨p, 1, none⟩ (.int .i64 n)) L N { s with pos := n } := by
  obtain ⟨hR, h2, h3⟩ := h
  have hF : Fr (fun b => b = p) w (w.setCell ⟨p, 1, none⟩ (.int .i64 n)) := (by repeat (first | with_reducible exact Fr.refl _ _ | (with_reducible refine Fr.drew ?_) | (with_reducible refine Fr.drewN ?_ _) | (with_reducible refine Fr.alloc ?_ _) | ((with_reducible refine Fr.setCell ?_ ?_ _); rotate_left; first | exact .inl rfl | exact .inr (Nat.le_refl _) | exact .inl (Nat.le_refl _) | (focus (left; simp; done)) | (focus (left; simp; omega)) | (focus (left; omega)) | (focus (right; simp; done)) | (focus (right; simp; omega)) | (focus (right; omega))) | exact Fr.refl _ _))
  refine ⟨⟨blk_set hR.blk (by simp), ownsRow_block hR.l fun b hb => hF.block b (hR.l.lt b hb).2 (by have := (hR.l.lt b hb).1; omega), ownsRow_block hR.n fun b hb => hF.block b (hR.n.lt b hb).2 (by have := (hR.n.lt b hb).1; omega), hR.ln, hn, hR.len,
    hR.kw.fr hF (fun b hb => by have := hR.two; omega), hR.two⟩, h2.trans hF (fun i hi => by subst hi; exact h3 _ (.inl rfl)), h3⟩

/-- A word is added. -/
theorem Sx.word {w1 w2 : World} {L' : Value} {k n : Int} (h : Sx p t w0 L0 N0 w L N s) (hF : Fr (fun _ => False) w w1) (hg : w1.grownBy w2 L.ownBlock) (hs : w2.ownsRow (p + 1) 73 2 L' (s.ws.length + 1) (wordCells s.ws ++ [.int .i64 k, .int .i64 n]))
    (hv : L'.ownBlock = L.ownBlock ∨ L'.ownBlock = some w1.heap.size) : Sx p t w0 L0 N0 (w2.setCell ⟨p, 2, none⟩ L') L' N (sAdd k n s) := by
  obtain ⟨hR, h2, h3⟩ := h
  have hsz := hF.size
  have hF2 : Fr (fun b => L.ownBlock = some b) w w2 := (hF.mono (fun _ h => h.elim)).grown hg (fun k hk => .inl hk)
  have hF3 : Fr (fun b => b = p ∨ L.ownBlock = some b) w (w2.setCell ⟨p, 2, none⟩ L') := (hF2.mono (fun _ h => .inl (.inr h))).setCell (.inl (.inl rfl)) _
  have hnq : L.ownBlock ≠ some p := fun e => by have := (hR.l.lt p e).1; omega
  have hnew : ∀ b, L'.ownBlock = some b → L.ownBlock = some b ∨ w.heap.size ≤ b := fun b hb => by
    rcases hv with h1 | h1
    · exact .inl (h1 ▸ hb)
    · rw [h1] at hb; cases hb; exact .inr hsz
  refine ⟨⟨blk_set ((hF2.block p hR.lt hnq).trans hR.blk) (by simp [sAdd]), ?_, ownsRow_block hR.n fun b hb => hF3.block b (hR.n.lt b hb).2 ?_, ?_, hR.pos, hR.len, hR.kw.fr hF3 ?_, hR.two⟩, ?_, ?_⟩
  · have := ownsRow_block (w' := w2.setCell ⟨p, 2, none⟩ L') hs fun b hb => Below.heap_setCell _ _ _ _ (by have := (hs.lt b hb).1; show b ≠ p; omega)
    simpa [sAdd, wordCells] using this
  · have := (hR.n.lt b hb).1
    rintro (h1 | h1)
    · omega
    · exact hR.ln b h1 hb
  · intro b hb hb'
    rcases hnew b hb with h1 | h1
    · exact hR.ln b h1 hb'
    · have := (hR.n.lt b hb').2; omega
  · rintro b (rfl | h1)
    · exact hR.two
    · have := (hR.l.lt b h1).1; have := hR.two; omega
  · exact h2.trans hF3 (fun i hi => by rcases hi with rfl | hi; exact h3 _ (.inl rfl); exact h3 _ (.inr (.inl hi)))
  · rintro b (rfl | hb | hb)
    · exact h3 _ (.inl rfl)
    · rcases hnew b hb with h1 | h1
      · exact h3 _ (.inr (.inl h1))
      · have := h2.size; right; omega
    · exact h3 _ (.inr (.inr hb))

/-- A name is added. -/
theorem Sx.named {w1 w2 : World} {N' : Value} {x : List UInt8} (h : Sx p t w0 L0 N0 w L N s) (hF : Fr (fun _ => False) w w1) (hg : w1.grownBy w2 N.ownBlock) (hs : w2.ownsRow (p + 1) 9 1 N' (s.names.length + 1) ((s.names.map fun x => .string (bs x)) ++ [.string (bs x)]))
    (hv : N'.ownBlock = N.ownBlock ∨ N'.ownBlock = some w1.heap.size) : Sx p t w0 L0 N0 (w2.setCell ⟨p, 3, none⟩ N') L N' { s with names := s.names ++ [x] } := by
  obtain ⟨hR, h2, h3⟩ := h
  have hsz := hF.size
  have hF2 : Fr (fun b => N.ownBlock = some b) w w2 := (hF.mono (fun _ h => h.elim)).grown hg (fun k hk => .inl hk)
  have hF3 : Fr (fun b => b = p ∨ N.ownBlock = some b) w (w2.setCell ⟨p, 3, none⟩ N') := (hF2.mono (fun _ h => .inl (.inr h))).setCell (.inl (.inl rfl)) _
  have hnq : N.ownBlock ≠ some p := fun e => by have := (hR.n.lt p e).1; omega
  have hnew : ∀ b, N'.ownBlock = some b → N.ownBlock = some b ∨ w.heap.size ≤ b := fun b hb => by
    rcases hv with h1 | h1
    · exact .inl (h1 ▸ hb)
    · rw [h1] at hb; cases hb; exact .inr hsz
  refine ⟨⟨blk_set ((hF2.block p hR.lt hnq).trans hR.blk) (by simp), ownsRow_block hR.l fun b hb => hF3.block b (hR.l.lt b hb).2 ?_, ?_, ?_, hR.pos, hR.len, hR.kw.fr hF3 ?_, hR.two⟩, ?_, ?_⟩
  · have := (hR.l.lt b hb).1
    rintro (h1 | h1)
    · omega
    · exact hR.ln b hb h1
  · have := ownsRow_block (w' := w2.setCell ⟨p, 3, none⟩ N') hs fun b hb => Below.heap_setCell _ _ _ _ (by have := (hs.lt b hb).1; show b ≠ p; omega)
    simpa using this
  · intro b hb hb'
    rcases hnew b hb' with h1 | h1
    · exact hR.ln b hb h1
    · have := (hR.l.lt b hb).2; omega
  · rintro b (rfl | h1)
    · exact hR.two
    · have := (hR.n.lt b h1).1; have := hR.two; omega
  · exact h2.trans hF3 (fun i hi => by rcases hi with rfl | hi; exact h3 _ (.inl rfl); exact h3 _ (.inr (.inr hi)))
  · rintro b (rfl | hb | hb)
    · exact h3 _ (.inl rfl)
    · exact h3 _ (.inr (.inl hb))
    · rcases hnew b hb with h1 | h1
      · exact h3 _ (.inr (.inr h1))
      · have := h2.size; right; omega
end

end Go.Proofs.YtnbhnjokpcdnnaaDoor

namespace Go.Proofs.YtnbhnjokpcdnnaaDoor
open Go.RowKit

theorem Tryd.infoWord : (Tryd.prog.info? 73).map (fun i => (i.zero, i.size, i.bytes)) = some (some (.agg #[.int .i64 0, .int .i64 0]), 2, 16) := by kernel_rfl
theorem Tryd.infoStr : (Tryd.prog.info? 9).map (fun i => (i.zero, i.size, i.bytes)) = some (some (.string (bs [])), 1, 16) := by kernel_rfl
theorem slWord : SlT Tryd.prog 40 73 (.agg #[.int .i64 0, .int .i64 0]) 2 16 := ⟨Tryd.underlying40, info_parts Tryd.infoWord, rfl, by decide⟩
theorem slStr : SlT Tryd.prog 58 9 (.string (bs [])) 1 16 := ⟨Tryd.underlying58, info_parts Tryd.infoStr, rfl, by decide⟩

theorem isDigit_any (c : UInt8) (w : World) : Calls Tryd.prog 21 #[.int .u8 c.toNat] w fun e w' => e = .returned (.bool (isDig c)) ∧ w' = w := by
  have h1 : c.toNat ≤ 255 := by have := c.toNat_lt; omega
  have HD : Hid (isDig c = (decide (48 ≤ c.toNat) && decide (c.toNat ≤ 57))) := by rfl
  generalize isDig c = d at *
  generalize c.toNat = k at *
  go_enter Tryd.func21, Tryd.ntmps21
  go_wp2
  all_goals
    go_ret
    rw [HD.out]
    refine ⟨ret_bool ?_, rfl⟩
    first | (rw [decide_eq_true (by omega : 48 ≤ k), Bool.true_and]; exact decide_eq_decide.2 (by omega)) | (rw [decide_eq_false (by omega : ¬ 48 ≤ k)]; rfl)

set_option maxHeartbeats 800000 in
theorem beginsName_any (c : UInt8) (w : World) : Calls Tryd.prog 23 #[.int .u8 c.toNat] w fun e w' => e = .returned (.bool (begN c)) ∧ w' = w := by
  have h1 : c.toNat ≤ 255 := by have := c.toNat_lt; omega
  have HD : Hid (begN c = (decide (c.toNat = 95) || (decide (97 ≤ c.toNat) && decide (c.toNat ≤ 122)))) := by rfl
  generalize begN c = d at *
  generalize c.toNat = k at *
  by_cases e1 : k = 95
  · subst e1
    go_enter Tryd.func23, Tryd.ntmps23
    go_wp2
    go_ret
    rw [HD.out]
    exact ⟨rfl, rfl⟩
  · have e2 : ((k : Int) == 95) = false := by simp; omega
    by_cases e3 : 97 ≤ k
    · go_enter Tryd.func23, Tryd.ntmps23
      go_wp2
      go_ret
      rw [HD.out]
      refine ⟨ret_bool ?_, rfl⟩
      rw [decide_eq_false e1, decide_eq_true e3]
      simp only [Bool.false_or, Bool.true_and]
      exact decide_eq_decide.2 (by omega)
    · go_enter Tryd.func23, Tryd.ntmps23
      go_wp2
      go_ret
      rw [HD.out]
      refine ⟨ret_bool ?_, rfl⟩
      rw [decide_eq_false e1, decide_eq_false e3]
      rfl

set_option maxHeartbeats 800000 in
theorem goesOnName_any (c : UInt8) (w : World) : Calls Tryd.prog 38 #[.int .u8 c.toNat] w fun e w' => e = .returned (.bool (onN c)) ∧ w' = w := by
  have HD : Hid (onN c = (begN c || isDig c)) := by rfl
  cases hb : begN c with
  | true =>
    go_enter Tryd.func38, Tryd.ntmps38
    go_wp2_with fail
    refine (beginsName_any _ _).mono ?_
    rintro e w' ⟨rfl, rfl⟩
    go_wp2_with fail
    go_ret
    rw [HD.out, hb]
    exact ⟨rfl, rfl⟩
  | false =>
    go_enter Tryd.func38, Tryd.ntmps38
    go_wp2_with fail
    refine (beginsName_any _ _).mono ?_
    rintro e w' ⟨rfl, rfl⟩
    go_wp2_with fail
    refine (isDigit_any _ _).mono ?_
    rintro e w' ⟨rfl, rfl⟩
    go_wp2_with fail
    go_ret
    rw [HD.out, hb]
    exact ⟨rfl, rfl⟩

set_option maxHeartbeats 800000 in
set_option maxRecDepth 100000 in
theorem sadd_any (p : Nat) (t : List UInt8) (s : SS) (L N : Value) (k n : Int) (w : World) (h : Sp w p t s L N) (hn : s.ws.length ≤ 1000) :
    Calls Tryd.prog 37 #[.pointer (some ⟨p, 0, none⟩), .int .i64 k, .int .i64 n] w fun e w' => e = .returned (.tuple #[]) ∧ Sn p t w L N w' (sAdd k n s) := by
  have HX : Hid (Sx p t w L N w L N s) := Sx.start h
  obtain ⟨⟨-, -, c2, -⟩, hf⟩ := h.cells
  have f2 := hf 2
  have hp := h.lt
  have hL := h.l
  have HLr : Hid (∀ b, L.ownBlock = some b → p + 1 ≤ b) := fun b hb => (hL.lt b hb).1
  obtain ⟨la, lc, rfl⟩ := ownsRow_len hL
  clear h hf
  go_enter Tryd.func37, Tryd.ntmps37
  go_wp2_with (at_builtin; refine wpList_app slWord rfl (.tmp 10) (.tmp 14) rfl (p + 1) s.ws.length (wordCells s.ws) _ rfl (hL.alloc _) ⟨w.heap.size, 0, none⟩ 1 1 [.int .i64 k, .int .i64 n] rfl rfl ?c1 ?c2 (by decide) ?b1 ?b2 ?b3 ?grow)
  case c1 => intro j u hj; match j, hj with | 0, hj | 1, hj => simp at hj; subst hj; simp [Addr.add]
  case c2 => intro u hu; simp at hu; rcases hu with rfl | rfl <;> rfl
  case b1 => unfold maxLen; omega
  case b2 => omega
  case b3 => simp; omega
  case grow =>
    intro v' w3 hown hgrow hv g' cap hfm
    subst hfm
    obtain ⟨k2, g2⟩ := grown_at hp (by exact ((Fr.refl _ w).alloc _)) hgrow HLr.out 2
    rw [c2] at k2
    rw [f2] at g2
    have HN : Hid (Sx p t w (.slice la s.ws.length lc) N (w3.setCell ⟨p, 2, none⟩ (.slice (some ⟨g', 0, none⟩) (s.ws.length + 1) cap)) (.slice (some ⟨g', 0, none⟩) (s.ws.length + 1) cap) N (sAdd k n s)) := HX.out.word (by exact ((Fr.refl _ w).alloc _)) hgrow hown (by simpa using hv)
    clear hown hgrow hv HX
    go_wp2_with fail
    go_end0
    exact ⟨rfl, HN.out.sn⟩

end Go.Proofs.YtnbhnjokpcdnnaaDoor

namespace Go.Proofs.YtnbhnjokpcdnnaaDoor
open Go.RowKit

theorem bs_inj {a b : List UInt8} (h : bs a = bs b) : a = b := by
  have := congrArg (fun x => x.data.toList) h
  simpa using this

theorem rowStr {w : World} {base : Nat} {e : TypeId} {v : Value} {l : List (List UInt8)} (h : w.ownsRow base e 1 v l.length (l.map fun x => .string (bs x))) {j : Nat} (hj : j < l.length) :
    ∃ g cap, v = .slice (some ⟨g, 0, none⟩) l.length cap ∧ w.cell? ⟨g, j, none⟩ = some (.string (bs l[j])) ∧ g < w.heap.size := by
  rcases h.2 with ⟨_, h0⟩ | ⟨g, cap, cur, rfl, hg⟩
  · omega
  · refine ⟨g, cap, rfl, ?_, (h.lt g rfl).2⟩
    rw [World.ownsRow.cellAt h j (by omega)]
    simp [hj]

theorem idxOf_eq {l : List (List UInt8)} {x : List UInt8} {k : Nat} (hk : k < l.length) (h1 : ∀ j, (hj : j < k) → l[j]'(by omega) ≠ x) (h2 : l[k] = x) : l.idxOf x = k := by
  induction l generalizing k with
  | nil => cases hk
  | cons a l ih =>
    cases k with
    | zero => simp at h2; subst h2; simp
    | succ k =>
      have ha : a ≠ x := h1 0 (by omega)
      have hb : (a == x) = false := by simpa using ha
      rw [List.idxOf_cons, hb]
      have := ih (k := k) (by simpa using hk) (fun j hj => by have := h1 (j + 1) (by omega); simpa using this) (by simpa using h2)
      simp [this]

theorem idxOf_none {l : List (List UInt8)} {x : List UInt8} (h1 : ∀ j, (hj : j < l.length) → l[j] ≠ x) : ¬ l.idxOf x < l.length := by
  intro h
  exact h1 _ h (List.getElem_idxOf h)

set_option maxHeartbeats 1600000 in
set_option maxRecDepth 100000 in
theorem countName_any (p : Nat) (t : List UInt8) (s : SS) (L N : Value) (x : List UInt8) (w : World) (h : Sp w p t s L N) (hn : s.names.length ≤ 1000) :
    Calls Tryd.prog 39 #[.pointer (some ⟨p, 0, none⟩), .string (bs x)] w fun e w' => e = .returned (.int .i64 (sCount x s).2) ∧ Sn p t w L N w' (sCount x s).1 := by
  have hX := Sx.start h
  obtain ⟨na, nc, rfl⟩ := ownsRow_len h.n
  clear h
  go_enter Tryd.func39, Tryd.ntmps39
  go_wp2_with fail
  go_loopg [5] s.names.length (fun m i wr => ∃ k : Nat, i = .int .i64 k ∧ k ≤ s.names.length ∧ m = s.names.length - k ∧ (∀ j, (hj : j < k) → (hk : k ≤ s.names.length) → s.names[j]'(by omega) ≠ x) ∧ Sx p t w L (.slice na s.names.length nc) wr L (.slice na s.names.length nc) s)
  case atStart => exact ⟨0, rfl, Nat.zero_le _, rfl, fun j hj => by omega, hX⟩
  case round =>
    obtain ⟨k, rfl, hk, hm, hno, hX'⟩ := hrel
    have HM : Hid (gk = s.names.length - k) := hm
    have HNO : Hid (∀ j, (hj : j < k) → (hk : k ≤ s.names.length) → s.names[j]'(by omega) ≠ x) := hno
    clear hX hm hno
    obtain ⟨⟨-, -, -, c3⟩, hf⟩ := hX'.1.cells
    have hp := hX'.1.lt
    have f3 := hf 3
    clear hf
    by_cases hlt : k < s.names.length
    · obtain ⟨g, cap, hS, hc, hg⟩ := rowStr hX'.1.n hlt
      cases hS
      by_cases he : s.names[k] = x
      · have hbe : (s.names[k] == x) = true := by simpa using he
        have HR : Hid (sCount x s = (s, (k : Int))) := by
          have := idxOf_eq hlt (fun j hj => HNO.out j hj hk) he
          show sCount x s = _
          unfold sCount
          rw [if_pos (by rw [this]; exact hlt), this]
        clear HNO he
        generalize s.names[k] = nk at *
        go_wp2_with fail
        go_ret
        rw [HR.out]
        exact ⟨rfl, hX'.sn⟩
      · have hbe : (s.names[k] == x) = false := by simpa using he
        have HN2 : Hid (∀ j, (hj : j < k + 1) → (hk : k + 1 ≤ s.names.length) → s.names[j]'(by omega) ≠ x) := fun j hj hk' => by
          by_cases e : j = k
          · subst e; exact he
          · exact HNO.out j (by omega) hk
        clear HNO he
        generalize s.names[k] = nk at *
        go_wp2_with fail
        go_roundg (s.names.length - (k + 1))
        case measure => rw [HM.out]; omega
        case rel => exact ⟨k + 1, by go_num, by omega, rfl, HN2.out, hX'⟩
    · obtain rfl : k = s.names.length := by omega
      have HR : Hid (sCount x s = ({ s with names := s.names ++ [x] }, (s.names.length : Int))) := by
        show sCount x s = _
        unfold sCount
        rw [if_neg (idxOf_none (fun j hj => HNO.out j hj (Nat.le_refl _)))]
      have hN := hX'.1.n
      have HX : Hid (Sx p t w L (.slice na s.names.length nc) wr L (.slice na s.names.length nc) s) := hX'
      have HNr : Hid (∀ b, (Value.slice na s.names.length nc).ownBlock = some b → p + 1 ≤ b) := fun b hb => (hN.lt b hb).1
      clear HNO hX' HM
      go_wp2_with (at_builtin; refine wpList_app slStr rfl (.tmp 29) (.tmp 31) rfl (p + 1) s.names.length (s.names.map fun x => .string (bs x)) _ rfl (hN.alloc _) ⟨wr.heap.size, 0, none⟩ 1 1 [.string (bs x)] rfl rfl ?c1 ?c2 (by decide) ?b1 ?b2 ?b3 ?grow)
      case c1 => intro j u hj; match j, hj with | 0, hj => simp at hj; subst hj; simp [Addr.add]
      case c2 => intro u hu; simp at hu; rcases hu with rfl; rfl
      case b1 => unfold maxLen; omega
      case b2 => omega
      case b3 => simp; omega
      case grow =>
        intro v' w3 hown hgrow hv g' cap hfm
        subst hfm
        obtain ⟨k3, g3⟩ := grown_at hp (by exact ((Fr.refl _ wr).alloc _)) hgrow HNr.out 3
        rw [c3] at k3
        rw [f3] at g3
        have HS : Hid (Sx p t w L (.slice na s.names.length nc) (w3.setCell ⟨p, 3, none⟩ (.slice (some ⟨g', 0, none⟩) (s.names.length + 1) cap)) L (.slice (some ⟨g', 0, none⟩) (s.names.length + 1) cap) { s with names := s.names ++ [x] }) := HX.out.named (by exact ((Fr.refl _ wr).alloc _)) hgrow hown (by simpa using hv)
        clear hown hgrow hv HX
        go_wp2_with fail
        go_ret
        rw [HR.out]
        exact ⟨ret_int (by simp), HS.out.sn⟩

end Go.Proofs.YtnbhnjokpcdnnaaDoor

namespace Go.Proofs.YtnbhnjokpcdnnaaDoor
open Go.RowKit

theorem bs_size (t : List UInt8) : (bs t).size = t.length := by simp [ByteArray.size]

theorem takeWhile_at {q : UInt8 → Bool} : ∀ (l : List UInt8) (k : Nat) (h : k < (l.takeWhile q).length), ∃ h' : k < l.length, l[k] = (l.takeWhile q)[k] ∧ q l[k] = true
  | [], _, h => by simp at h
  | a :: l, k, h => by
    by_cases ha : q a = true
    · rw [List.takeWhile_cons_of_pos ha] at h
      cases k with
      | zero => exact ⟨by simp, by simp [ha], by simpa using ha⟩
      | succ k =>
        obtain ⟨h1, h2, h3⟩ := takeWhile_at l k (by simpa using h)
        exact ⟨by simpa using h1, by simp [ha, h2], by simpa using h3⟩
    · rw [List.takeWhile_cons_of_neg ha] at h
      simp at h

theorem takeWhile_stop {q : UInt8 → Bool} : ∀ (l : List UInt8) (h : (l.takeWhile q).length < l.length), q l[(l.takeWhile q).length] = false
  | [], h => by simp at h
  | a :: l, h => by
    by_cases ha : q a = true
    · simp only [List.takeWhile_cons_of_pos ha, List.length_cons] at h ⊢
      have := takeWhile_stop (q := q) l (by omega)
      simpa using this
    · simp only [List.takeWhile_cons_of_neg ha, List.length_nil] at h ⊢
      simpa using ha

theorem takeWhile_len {q : UInt8 → Bool} (l : List UInt8) : (l.takeWhile q).length ≤ l.length := by
  have := (List.takeWhile_prefix (l := l) q).length_le
  exact this

/-- Of a stretch that goes as far as it can: its signs, and where it ends. -/
theorem span_in {t : List UInt8} {p k : Nat} {q : UInt8 → Bool} (h : k < ((t.drop p).takeWhile q).length) : ∃ h' : p + k < t.length, t[p + k] = ((t.drop p).takeWhile q)[k] ∧ q t[p + k] = true := by
  obtain ⟨h1, h2, h3⟩ := takeWhile_at (t.drop p) k h
  have h4 : p + k < t.length := by simp at h1; omega
  simp only [List.getElem_drop] at h2 h3
  exact ⟨h4, h2, h3⟩

theorem span_end {t : List UInt8} {p : Nat} {q : UInt8 → Bool} (h : p + ((t.drop p).takeWhile q).length < t.length) : q t[p + ((t.drop p).takeWhile q).length] = false := by
  have := takeWhile_stop (q := q) (t.drop p) (by simp; omega)
  simpa [List.getElem_drop] using this

theorem span_le {t : List UInt8} {p : Nat} {q : UInt8 → Bool} (hp : p ≤ t.length) : p + ((t.drop p).takeWhile q).length ≤ t.length := by
  have := takeWhile_len (q := q) (t.drop p)
  simp at this
  omega

theorem numStep_bd {n : Int} {c : UInt8} (hc : isDig c = true) (h0 : 0 ≤ n) (h1 : n ≤ 9999999) : 0 ≤ numStep n c ∧ numStep n c ≤ 9999999 := by
  simp only [isDig, Bool.and_eq_true, decide_eq_true_eq] at hc
  unfold numStep
  split <;> omega

theorem foldl_bd : ∀ (l : List UInt8) (n : Int), (∀ c ∈ l, isDig c = true) → 0 ≤ n → n ≤ 9999999 → 0 ≤ l.foldl numStep n ∧ l.foldl numStep n ≤ 9999999
  | [], n, _, h0, h1 => ⟨h0, h1⟩
  | c :: l, n, hc, h0, h1 => by
    have := numStep_bd (hc c (by simp)) h0 h1
    exact foldl_bd l _ (fun d hd => hc d (by simp [hd])) this.1 this.2

theorem numOf_bd {l : List UInt8} (h : ∀ c ∈ l, isDig c = true) : 0 ≤ numOf l ∧ numOf l ≤ 9999999 := foldl_bd l 0 h (by omega) (by omega)

theorem numOf_snoc (l : List UInt8) (c : UInt8) : numOf (l ++ [c]) = numStep (numOf l) c := by simp [numOf]

theorem all_takeWhile {q : UInt8 → Bool} {l : List UInt8} : ∀ c ∈ l.takeWhile q, q c = true := fun c hc => by
  induction l with
  | nil => simp at hc
  | cons a l ih =>
    by_cases ha : q a = true
    · rw [List.takeWhile_cons_of_pos ha] at hc
      rcases List.mem_cons.1 hc with rfl | h
      · exact ha
      · exact ih h
    · rw [List.takeWhile_cons_of_neg ha] at hc
      simp at hc

set_option maxHeartbeats 3200000 in
set_option maxRecDepth 100000 in
theorem number_any (p : Nat) (t : List UInt8) (s : SS) (L N : Value) (w : World) (h : Sp w p t s L N) (hn : s.ws.length ≤ 1000) :
    Calls Tryd.prog 22 #[.pointer (some ⟨p, 0, none⟩)] w fun e w' => e = .returned (.bool (sNumber t s).2) ∧ Sn p t w L N w' (sNumber t s).1 := by
  have hX := Sx.start h
  have hlen := h.len
  have hpos := h.pos
  clear h
  go_enter Tryd.func22, Tryd.ntmps22
  go_wp2_with fail
  go_loopg [3] (digs t s).length (fun m nv wr => ∃ k : Nat, k ≤ (digs t s).length ∧ m = (digs t s).length - k ∧ nv = .int .i64 (numOf ((digs t s).take k)) ∧ Sx p t w L N wr L N { s with pos := s.pos + k })
  case atStart => exact ⟨0, Nat.zero_le _, rfl, rfl, by simpa using hX⟩
  case round =>
    obtain ⟨k, hk, hm, rfl, hX'⟩ := hrel
    have HM : Hid (gk = (digs t s).length - k) := hm
    clear hX hm
    obtain ⟨⟨c0, c1, -, -⟩, hf⟩ := hX'.1.cells
    have hp := hX'.1.lt
    have f1 := hf 1
    clear hf
    obtain ⟨b0, b1⟩ := numOf_bd (l := (digs t s).take k) (fun c hc => all_takeWhile c (List.mem_of_mem_take hc))
    by_cases hlt : k < (digs t s).length
    · obtain ⟨h1, h2, h3⟩ := span_in hlt
      have hds : (digs t s).take (k + 1) = (digs t s).take k ++ [t[s.pos + k]] := by
        rw [List.take_succ_eq_append_getElem hlt, h2]
        rfl
      have HS : Hid (numOf ((digs t s).take (k + 1)) = numStep (numOf ((digs t s).take k)) t[s.pos + k]) := by
        show _ = _
        rw [hds, numOf_snoc]
      simp only at c1
      have hd0 : decide (((s.pos + k : Nat) : Int) < (t.length : Int)) = true := decide_eq_true (by omega)
      obtain ⟨c, hc⟩ : ∃ c, (bs t)[s.pos + k]'(by rw [bs_size]; exact h1) = c := ⟨_, rfl⟩
      have hc' : t[s.pos + k] = c := hc
      rw [hc'] at HS h3
      have HK : Hid (∀ w', Sx p t w L N w' L N { s with pos := s.pos + k } → Sx p t w L N (w'.setCell ⟨p, 1, none⟩ (.int .i64 ((s.pos + k : Nat) + 1 : Int))) L N { s with pos := s.pos + (k + 1) }) := fun w' hx => by
        have := hx.move (s.pos + (k + 1)) (by omega)
        have e : ((s.pos + (k + 1) : Nat) : Int) = ((s.pos + k : Nat) + 1 : Int) := by omega
        rw [e] at this
        exact this
      have hdg : 48 ≤ c.toNat ∧ c.toNat ≤ 57 := by simpa [isDig] using h3
      obtain ⟨hdg1, hdg2⟩ := hdg
      have HX : Hid (Sx p t w L N wr L N { s with pos := s.pos + k }) := hX'
      have HKL : Hid (k + 1 ≤ (digs t s).length) := by show _ ≤ _; omega
      clear hX' hc' hds h2 hlt
      have HN : Hid (numStep (numOf ((digs t s).take k)) c = if numOf ((digs t s).take k) ≤ 999999 then 10 * numOf ((digs t s).take k) + ((c.toNat : Int) - 48) else numOf ((digs t s).take k)) := by rfl
      generalize numOf ((digs t s).take k) = nv at *
      generalize hi : s.pos + k = i at c1 h1 hc hd0 HK HX
      clear hi
      go_wp2
      go_quiet ((go_at_call 21; exact Calls.quiet_of_same (isDigit_any _ _)))
      by_cases hle : nv ≤ 999999
      · go_wp2_with fail
        go_quiet (fail)
        go_wp2_with fail
        go_roundg ((digs t s).length - (k + 1))
        case measure => have := HKL.out; rw [HM.out]; omega
        case rel => exact ⟨k + 1, HKL.out, rfl, by rw [HS.out, HN.out, if_pos hle], HK.out _ (HX.out.fr (by repeat (first | with_reducible exact Fr.refl _ _ | (with_reducible refine Fr.drew ?_) | (with_reducible refine Fr.drewN ?_ _) | (with_reducible refine Fr.alloc ?_ _) | ((with_reducible refine Fr.setCell ?_ ?_ _); rotate_left; first | exact .inl rfl | exact .inr (Nat.le_refl _) | exact .inl (Nat.le_refl _) | (focus (left; simp; done)) | (focus (left; simp; omega)) | (focus (left; omega)) | (focus (right; simp; done)) | (focus (right; simp; omega)) | (focus (right; omega))) | exact Fr.refl _ _)))⟩
      · go_wp2_with fail
        go_roundg ((digs t s).length - (k + 1))
        case measure => have := HKL.out; rw [HM.out]; omega
        case rel => exact ⟨k + 1, HKL.out, rfl, by rw [HS.out, HN.out, if_neg (by omega)], HK.out _ (HX.out.fr (by repeat (first | with_reducible exact Fr.refl _ _ | (with_reducible refine Fr.drew ?_) | (with_reducible refine Fr.drewN ?_ _) | (with_reducible refine Fr.alloc ?_ _) | ((with_reducible refine Fr.setCell ?_ ?_ _); rotate_left; first | exact .inl rfl | exact .inr (Nat.le_refl _) | exact .inl (Nat.le_refl _) | (focus (left; simp; done)) | (focus (left; simp; omega)) | (focus (left; omega)) | (focus (right; simp; done)) | (focus (right; simp; omega)) | (focus (right; omega))) | exact Fr.refl _ _)))⟩
    · obtain rfl : k = (digs t s).length := by omega
      have HE : Hid (sNumber t s = (sAdd 1 (numOf (digs t s)) { s with pos := s.pos + (digs t s).length }, decide (numOf (digs t s) ≤ 999999))) := by rfl
      have htk : (digs t s).take (digs t s).length = digs t s := List.take_length
      rw [htk] at b0 b1 ⊢
      have hws : ({ s with pos := s.pos + (digs t s).length } : SS).ws.length ≤ 1000 := hn
      have hfin : s.pos + (digs t s).length < t.length → ∃ c, t[s.pos + (digs t s).length]? = some c ∧ isDig c = false := fun h1 => ⟨t[s.pos + (digs t s).length], by simp [h1], span_end (q := isDig) h1⟩
      simp only at c1
      generalize numOf (digs t s) = nv at *
      generalize hs2 : ({ s with pos := s.pos + (digs t s).length } : SS) = s2 at *
      generalize s.pos + (digs t s).length = i at *
      clear htk HM hlt hs2
      by_cases h1 : i < t.length
      · obtain ⟨c, hc0, hD⟩ := hfin h1
        have hc : (bs t)[i]'(by rw [bs_size]; exact h1) = c := by
          rw [List.getElem?_eq_some_iff] at hc0
          exact hc0.2
        have hd0 : decide ((i : Int) < (t.length : Int)) = true := decide_eq_true (by omega)
        clear hfin hc0
        go_wp2
        go_quiet ((go_at_call 21; exact Calls.quiet_of_same (isDigit_any _ _)))
        go_wp2_with fail
        refine (sadd_any p t s2 L N 1 nv _ (hX'.fr (by repeat (first | with_reducible exact Fr.refl _ _ | (with_reducible refine Fr.drew ?_) | (with_reducible refine Fr.drewN ?_ _) | (with_reducible refine Fr.alloc ?_ _) | ((with_reducible refine Fr.setCell ?_ ?_ _); rotate_left; first | exact .inl rfl | exact .inr (Nat.le_refl _) | exact .inl (Nat.le_refl _) | (focus (left; simp; done)) | (focus (left; simp; omega)) | (focus (left; omega)) | (focus (right; simp; done)) | (focus (right; simp; omega)) | (focus (right; omega))) | exact Fr.refl _ _))).1 hws).mono ?_
        rintro e w3 ⟨rfl, hN⟩
        have HN2 : Hid (Sn p t w L N w3 (sAdd 1 nv s2)) := (hX'.fr (by repeat (first | with_reducible exact Fr.refl _ _ | (with_reducible refine Fr.drew ?_) | (with_reducible refine Fr.drewN ?_ _) | (with_reducible refine Fr.alloc ?_ _) | ((with_reducible refine Fr.setCell ?_ ?_ _); rotate_left; first | exact .inl rfl | exact .inr (Nat.le_refl _) | exact .inl (Nat.le_refl _) | (focus (left; simp; done)) | (focus (left; simp; omega)) | (focus (left; omega)) | (focus (right; simp; done)) | (focus (right; simp; omega)) | (focus (right; omega))) | exact Fr.refl _ _))).go hN
        clear hX' hN
        go_wp2_with fail
        go_ret
        rw [HE.out]
        exact ⟨rfl, HN2.out⟩
      · have hd0 : decide ((i : Int) < (t.length : Int)) = false := decide_eq_false (by omega)
        clear hfin
        go_wp2
        go_quiet ((go_at_call 21; exact Calls.quiet_of_same (isDigit_any _ _)))
        go_wp2_with fail
        refine (sadd_any p t s2 L N 1 nv _ (hX'.fr (by repeat (first | with_reducible exact Fr.refl _ _ | (with_reducible refine Fr.drew ?_) | (with_reducible refine Fr.drewN ?_ _) | (with_reducible refine Fr.alloc ?_ _) | ((with_reducible refine Fr.setCell ?_ ?_ _); rotate_left; first | exact .inl rfl | exact .inr (Nat.le_refl _) | exact .inl (Nat.le_refl _) | (focus (left; simp; done)) | (focus (left; simp; omega)) | (focus (left; omega)) | (focus (right; simp; done)) | (focus (right; simp; omega)) | (focus (right; omega))) | exact Fr.refl _ _))).1 hws).mono ?_
        rintro e w3 ⟨rfl, hN⟩
        have HN2 : Hid (Sn p t w L N w3 (sAdd 1 nv s2)) := (hX'.fr (by repeat (first | with_reducible exact Fr.refl _ _ | (with_reducible refine Fr.drew ?_) | (with_reducible refine Fr.drewN ?_ _) | (with_reducible refine Fr.alloc ?_ _) | ((with_reducible refine Fr.setCell ?_ ?_ _); rotate_left; first | exact .inl rfl | exact .inr (Nat.le_refl _) | exact .inl (Nat.le_refl _) | (focus (left; simp; done)) | (focus (left; simp; omega)) | (focus (left; omega)) | (focus (right; simp; done)) | (focus (right; simp; omega)) | (focus (right; omega))) | exact Fr.refl _ _))).go hN
        clear hX' hN
        go_wp2_with fail
        go_ret
        rw [HE.out]
        exact ⟨rfl, HN2.out⟩

end Go.Proofs.YtnbhnjokpcdnnaaDoor

namespace Go.Proofs.YtnbhnjokpcdnnaaDoor
open Go.RowKit

theorem bs_extract (t : List UInt8) (a b : Nat) : (bs t).extract a b = bs ((t.drop a).take (b - a)) := by
  have h : ((bs t).extract a b).data = (bs ((t.drop a).take (b - a))).data := by
    rw [ByteArray.data_extract]
    apply Array.ext'
    simp [List.extract_eq_take_drop]
  cases hx : (bs t).extract a b with
  | mk d =>
    rw [hx] at h
    simp only at h
    rw [h]

theorem kw_len : kwList.length = 20 := rfl

theorem kw_getD {j : Nat} (hj : j < kwList.length) : kwList.getD j [] = kwList[j] := by simp [hj]

set_option maxHeartbeats 3200000 in
set_option maxRecDepth 100000 in
theorem name_any (p : Nat) (t : List UInt8) (s : SS) (L N : Value) (w : World) (h : Sp w p t s L N) (hn : s.ws.length ≤ 1000) (hnn : s.names.length ≤ 1000) :
    Calls Tryd.prog 24 #[.pointer (some ⟨p, 0, none⟩)] w fun e w' => e = .returned (.tuple #[]) ∧ Sn p t w L N w' (sName t s) := by
  have hX := Sx.start h
  have hlen := h.len
  have hpos := h.pos
  obtain ⟨⟨-, c1, -, -⟩, -⟩ := h.cells
  clear h
  go_enter Tryd.func24, Tryd.ntmps24
  go_wp2_with fail
  go_loopg [] (nameOf t s).length (fun m wr => ∃ k : Nat, k ≤ (nameOf t s).length ∧ m = (nameOf t s).length - k ∧ Sx p t w L N wr L N { s with pos := s.pos + k })
  case atStart => exact ⟨0, Nat.zero_le _, rfl, by simpa using hX⟩
  case round =>
    obtain ⟨k, hk, hm, hX'⟩ := hrel
    have HM : Hid (gk = (nameOf t s).length - k) := hm
    clear hX hm c1
    obtain ⟨⟨c0, c1, -, -⟩, hf⟩ := hX'.1.cells
    have hp := hX'.1.lt
    have f1 := hf 1
    clear hf
    by_cases hlt : k < (nameOf t s).length
    · obtain ⟨h1, h2, h3⟩ := span_in hlt
      simp only at c1
      have hd0 : decide (((s.pos + k : Nat) : Int) < (t.length : Int)) = true := decide_eq_true (by omega)
      obtain ⟨c, hc⟩ : ∃ c, (bs t)[s.pos + k]'(by rw [bs_size]; exact h1) = c := ⟨_, rfl⟩
      have hc' : t[s.pos + k] = c := hc
      rw [hc'] at h3
      have HK : Hid (∀ w', Sx p t w L N w' L N { s with pos := s.pos + k } → Sx p t w L N (w'.setCell ⟨p, 1, none⟩ (.int .i64 ((s.pos + k : Nat) + 1 : Int))) L N { s with pos := s.pos + (k + 1) }) := fun w' hx => by
        have := hx.move (s.pos + (k + 1)) (by omega)
        have e : ((s.pos + (k + 1) : Nat) : Int) = ((s.pos + k : Nat) + 1 : Int) := by omega
        rw [e] at this
        exact this
      have HX : Hid (Sx p t w L N wr L N { s with pos := s.pos + k }) := hX'
      have HKL : Hid (k + 1 ≤ (nameOf t s).length) := by show _ ≤ _; omega
      clear hX' hc' h2 hlt
      generalize hi : s.pos + k = i at c1 h1 hc hd0 HK HX
      clear hi
      go_wp2
      go_quiet ((go_at_call 38; exact Calls.quiet_of_same (goesOnName_any _ _)))
      go_wp2_with fail
      go_roundg ((nameOf t s).length - (k + 1))
      case measure => have := HKL.out; rw [HM.out]; omega
      case rel => exact ⟨k + 1, HKL.out, rfl, HK.out _ (HX.out.fr (by repeat (first | with_reducible exact Fr.refl _ _ | (with_reducible refine Fr.drew ?_) | (with_reducible refine Fr.drewN ?_ _) | (with_reducible refine Fr.alloc ?_ _) | ((with_reducible refine Fr.setCell ?_ ?_ _); rotate_left; first | exact .inl rfl | exact .inr (Nat.le_refl _) | exact .inl (Nat.le_refl _) | (focus (left; simp; done)) | (focus (left; simp; omega)) | (focus (left; omega)) | (focus (right; simp; done)) | (focus (right; simp; omega)) | (focus (right; omega))) | exact Fr.refl _ _)))⟩
    · obtain rfl : k = (nameOf t s).length := by omega
      have hfin : s.pos + (nameOf t s).length < t.length → ∃ c, t[s.pos + (nameOf t s).length]? = some c ∧ onN c = false := fun h1 => ⟨t[s.pos + (nameOf t s).length], by simp [h1], span_end (q := onN) h1⟩
      have hle : s.pos + (nameOf t s).length ≤ t.length := span_le (q := onN) hpos
      have hge : s.pos ≤ s.pos + (nameOf t s).length := by omega
      have HSub : Hid ((t.drop s.pos).take (s.pos + (nameOf t s).length - s.pos) = nameOf t s) := by
        show _ = _
        rw [Nat.add_sub_cancel_left]
        have := List.takeWhile_prefix (l := t.drop s.pos) onN
        exact (List.prefix_iff_eq_take.1 this).symm
      have HE : Hid (sName t s = if kwList.idxOf (nameOf t s) < 20 then sAdd (3 + (kwList.idxOf (nameOf t s) : Nat)) 0 { s with pos := s.pos + (nameOf t s).length } else sAdd 2 (sCount (nameOf t s) { s with pos := s.pos + (nameOf t s).length }).2 (sCount (nameOf t s) { s with pos := s.pos + (nameOf t s).length }).1) := by rfl
      have hws : ({ s with pos := s.pos + (nameOf t s).length } : SS).ws.length ≤ 1000 := hn
      have hns : ({ s with pos := s.pos + (nameOf t s).length } : SS).names.length ≤ 1000 := hnn
      simp only at c1
      generalize hs2 : ({ s with pos := s.pos + (nameOf t s).length } : SS) = s2 at *
      generalize s.pos + (nameOf t s).length = i at *
      generalize nameOf t s = x at *
      generalize s.pos = p0 at *
      clear HM hlt hk hs2
      have hcase : (∃ (h1 : i < t.length) (c : UInt8), (bs t)[i]'(by rw [bs_size]; exact h1) = c ∧ onN c = false ∧ decide ((i : Int) < (t.length : Int)) = true) ∨ (¬ i < t.length ∧ decide ((i : Int) < (t.length : Int)) = false) := by
        by_cases h1 : i < t.length
        · obtain ⟨c, hc0, hD⟩ := hfin h1
          exact .inl ⟨h1, c, by rw [List.getElem?_eq_some_iff] at hc0; exact hc0.2, hD, decide_eq_true (by omega)⟩
        · exact .inr ⟨h1, decide_eq_false (by omega)⟩
      clear hfin
      have hex : (bs t).extract p0 i = bs x := by rw [bs_extract, HSub.out]
      have hkw := hX'.1.kw
      clear HSub
      rcases hcase with ⟨h1, c, hc, hD, hd0⟩ | ⟨h1, hd0⟩
      all_goals
        go_wp2
        go_quiet ((go_at_call 38; exact Calls.quiet_of_same (goesOnName_any _ _)))
        go_wp2
        go_quiet (fail)
        go_wp2_with fail
        try clear hD
        go_loopg [4] 20 (fun m iv wr' => ∃ k : Nat, iv = .int .i64 k ∧ k ≤ 20 ∧ m = 20 - k ∧ (∀ j, j < k → kwList.getD j [] ≠ x) ∧ Sx p t w L N wr' L N s2)
        case atStart => exact ⟨0, rfl, Nat.zero_le _, rfl, fun j hj => by omega, hX'.fr (by repeat (first | with_reducible exact Fr.refl _ _ | (with_reducible refine Fr.drew ?_) | (with_reducible refine Fr.drewN ?_ _) | (with_reducible refine Fr.alloc ?_ _) | ((with_reducible refine Fr.setCell ?_ ?_ _); rotate_left; first | exact .inl rfl | exact .inr (Nat.le_refl _) | exact .inl (Nat.le_refl _) | (focus (left; simp; done)) | (focus (left; simp; omega)) | (focus (left; omega)) | (focus (right; simp; done)) | (focus (right; simp; omega)) | (focus (right; omega))) | exact Fr.refl _ _))⟩
        case round =>
          obtain ⟨k, rfl, hk, hm, hno, hY⟩ := hrel
          have HM : Hid (gk = 20 - k) := hm
          have HNO : Hid (∀ j, j < k → kwList.getD j [] ≠ x) := hno
          clear hm hno hX' hkw c0 c1 f1
          by_cases hlt : k < 20
          · have hc0 := hY.1.kw.k k hlt
            have h0 := World.block_lt_of_cell? _ _ hc0
            by_cases he : kwList.getD k [] = x
            · have hbe : (kwList.getD k [] == x) = true := by simpa using he
              have HR : Hid (sName t s = sAdd (3 + (k : Nat)) 0 s2) := by
                have hix : kwList.idxOf x = k := idxOf_eq (k := k) (by rw [kw_len]; exact hlt) (fun j hj => by rw [← kw_getD]; exact HNO.out j hj) (by rw [← kw_getD]; exact he)
                show _ = _
                rw [HE.out, hix, if_pos hlt]
              clear HNO he HE
              generalize kwList.getD k [] = kk at *
              go_wp2_with fail
              refine (sadd_any p t s2 L N (3 + (k : Nat)) 0 _ hY.1 hws).mono ?_
              rintro e w3 ⟨rfl, hN⟩
              have HN2 := hY.go hN
              clear hY hN
              go_wp2_with fail
              refine bodyPost_ret (results_none rfl _ _ _) rfl ?_
              rw [HR.out]
              exact ⟨rfl, HN2⟩
            · have hbe : (kwList.getD k [] == x) = false := by simpa using he
              have HN3 : Hid (∀ j, j < k + 1 → kwList.getD j [] ≠ x) := fun j hj => by
                by_cases e : j = k
                · subst e; exact he
                · exact HNO.out j (by omega)
              clear HNO he HE
              generalize kwList.getD k [] = kk at hbe hc0
              go_wp2_with fail
              go_roundg (20 - (k + 1))
              case measure => rw [HM.out]; omega
              case rel => exact ⟨k + 1, by go_num, by omega, rfl, HN3.out, hY⟩
          · obtain rfl : k = 20 := by omega
            have HR : Hid (sName t s = sAdd 2 (sCount x s2).2 (sCount x s2).1) := by
              show _ = _
              rw [HE.out, if_neg]
              have := idxOf_none (l := kwList) (x := x) (fun j hj => by rw [← kw_getD]; exact HNO.out j (by rw [kw_len] at hj; exact hj))
              rw [kw_len] at this
              exact this
            have hws3 : (sCount x s2).1.ws.length ≤ 1000 := by unfold sCount; split <;> exact hws
            clear HNO HE HM
            go_wp2_with fail
            refine (countName_any p t s2 L N x _ hY.1 hns).mono ?_
            rintro e w3 ⟨rfl, L3, N3, hZ⟩
            have hZ' := hY.go ⟨L3, N3, hZ⟩
            obtain ⟨L4, N4, hZ4⟩ := hZ'
            clear hY hZ
            go_wp2_with fail
            refine (sadd_any p t _ L4 N4 2 _ _ hZ4.1 hws3).mono ?_
            rintro e w4 ⟨rfl, hN⟩
            have HN2 := hZ4.go hN
            clear hZ4 hN
            go_wp2_with fail
            go_end0
            rw [HR.out]
            exact ⟨rfl, HN2⟩

end Go.Proofs.YtnbhnjokpcdnnaaDoor

namespace Go.Proofs.YtnbhnjokpcdnnaaDoor
open Go.RowKit

theorem sg_len : sgList.length = 13 := rfl

theorem sg_short (k : Nat) : (sgList.getD k []).length ≤ 2 := by
  by_cases h : k < 13
  · have : ∀ k, k < 13 → (sgList.getD k []).length ≤ 2 := by decide
    exact this k h
  · rw [List.getD_eq_getElem?_getD, List.getElem?_eq_none (by rw [sg_len]; omega)]
    simp

theorem isPre_iff {x l : List UInt8} : x.isPrefixOf l = true ↔ x.length ≤ l.length ∧ l.take x.length = x := by
  rw [List.isPrefixOf_iff_prefix, List.prefix_iff_eq_take]
  constructor
  · intro h
    refine ⟨?_, h.symm⟩
    have := congrArg List.length h
    simp at this
    omega
  · exact fun h => h.2.symm

theorem sg_getD {j : Nat} (hj : j < sgList.length) : sgList.getD j [] = sgList[j] := by simp [hj]

theorem findIdx_at {q : List UInt8 → Bool} {k : Nat} (hk : k < 13) (h1 : ∀ j, j < k → q (sgList.getD j []) = false) (h2 : q (sgList.getD k []) = true) : sgList.findIdx q = k := by
  rw [List.findIdx_eq (by rw [sg_len]; exact hk)]
  refine ⟨by rw [← sg_getD]; exact h2, fun j hj => ?_⟩
  rw [← sg_getD]
  exact h1 j hj

theorem findIdx_none {q : List UInt8 → Bool} (h1 : ∀ j, j < 13 → q (sgList.getD j []) = false) : ¬ sgList.findIdx q < 13 := by
  have : sgList.findIdx q = sgList.length := by
    rw [List.findIdx_eq_length]
    intro x hx
    obtain ⟨j, hj, rfl⟩ := List.mem_iff_getElem.1 hx
    rw [← sg_getD]
    exact h1 j (by rw [sg_len] at hj; exact hj)
  rw [this, sg_len]
  omega

set_option maxHeartbeats 3200000 in
set_option maxRecDepth 100000 in
theorem sign_any (p : Nat) (t : List UInt8) (s : SS) (L N : Value) (w : World) (h : Sp w p t s L N) (hn : s.ws.length ≤ 1000) :
    Calls Tryd.prog 25 #[.pointer (some ⟨p, 0, none⟩)] w fun e w' => e = .returned (.bool (sSign t s).2) ∧ Sn p t w L N w' (sSign t s).1 := by
  have hX := Sx.start h
  have hlen := h.len
  have hpos := h.pos
  clear h
  go_enter Tryd.func25, Tryd.ntmps25
  go_wp2_with fail
  go_loopg [3] 13 (fun m iv wr => ∃ k : Nat, iv = .int .i64 k ∧ k ≤ 13 ∧ m = 13 - k ∧ (∀ j, j < k → signAt t s (sgList.getD j []) = false) ∧ Sx p t w L N wr L N s)
  case atStart => exact ⟨0, rfl, Nat.zero_le _, rfl, fun j hj => by omega, hX⟩
  case round =>
    obtain ⟨k, rfl, hk, hm, hno, hX'⟩ := hrel
    have HM : Hid (gk = 13 - k) := hm
    have HNO : Hid (∀ j, j < k → signAt t s (sgList.getD j []) = false) := hno
    clear hX hm hno
    obtain ⟨⟨c0, c1, -, -⟩, hf⟩ := hX'.1.cells
    have hp := hX'.1.lt
    have f1 := hf 1
    clear hf
    by_cases hlt : k < 13
    · have hcs := hX'.1.kw.s k hlt
      have h1 := World.block_lt_of_cell? _ _ hcs
      have hsh := sg_short k
      have HS : Hid (signAt t s (sgList.getD k []) = (decide ((sgList.getD k []).length ≤ t.length - s.pos) && decide ((t.drop s.pos).take (sgList.getD k []).length = sgList.getD k []))) := by
        show _ = _
        unfold signAt
        rw [Bool.eq_iff_iff, isPre_iff]
        simp
      have HR : Hid (signAt t s (sgList.getD k []) = true → sSign t s = (sAdd (23 + (k : Nat)) 0 { s with pos := s.pos + (sgList.getD k []).length }, true)) := fun hs => by
        have := findIdx_at (q := signAt t s) hlt HNO.out hs
        unfold sSign
        rw [this, if_pos hlt]
      have HN3 : Hid (signAt t s (sgList.getD k []) = false → ∀ j, j < k + 1 → signAt t s (sgList.getD j []) = false) := fun hs j hj => by
        by_cases e : j = k
        · subst e; exact hs
        · exact HNO.out j (by omega)
      have hex : (bs t).extract s.pos (s.pos + (sgList.getD k []).length) = bs ((t.drop s.pos).take (sgList.getD k []).length) := by rw [bs_extract, Nat.add_sub_cancel_left]
      have HV : Hid (s.pos + (sgList.getD k []).length ≤ t.length → ∀ w', Sx p t w L N w' L N s → Sx p t w L N (w'.setCell ⟨p, 1, none⟩ (.int .i64 ((s.pos : Int) + (sgList.getD k []).length))) L N { s with pos := s.pos + (sgList.getD k []).length }) := fun hle w' hx => by
        have := hx.move (s.pos + (sgList.getD k []).length) hle
        rw [Int.natCast_add] at this
        exact this
      clear HNO
      generalize sgList.getD k [] = x at *
      by_cases hle : s.pos + x.length ≤ t.length
      · obtain ⟨i, hi⟩ : ∃ i, i = s.pos + x.length := ⟨_, rfl⟩
        have HI : Hid (i = s.pos + x.length) := hi
        have hE : (s.pos : Int) + (x.length : Int) = (i : Int) := by omega
        have hge : s.pos ≤ i := by omega
        have hil : i ≤ t.length := by omega
        have hd0 : decide ((i : Int) ≤ (t.length : Int)) = true := decide_eq_true (by omega)
        rw [← hi] at hex
        have HV2 := HV.out hle
        rw [hE] at HV2
        have HV3 : Hid (∀ w', Sx p t w L N w' L N s → Sx p t w L N (w'.setCell ⟨p, 1, none⟩ (.int .i64 (i : Int))) L N { s with pos := s.pos + x.length }) := HV2
        clear HV HV2 hi
        by_cases he : (t.drop s.pos).take x.length = x
        · have hbe : ((t.drop s.pos).take x.length == x) = true := by simpa using he
          have HR2 : Hid (sSign t s = (sAdd (23 + (k : Nat)) 0 { s with pos := s.pos + x.length }, true)) := HR.out (by rw [HS.out, decide_eq_true (by omega), decide_eq_true he]; rfl)
          have hws : ({ s with pos := s.pos + x.length } : SS).ws.length ≤ 1000 := hn
          clear HR HN3 HS he
          generalize (t.drop s.pos).take x.length = y at *
          generalize ({ s with pos := s.pos + x.length } : SS) = s2 at *
          clear hle
          go_wp2
          go_quiet (fail)
          go_wp2
          go_quiet (fail)
          go_wp2_with fail
          refine (sadd_any p t s2 L N (23 + (k : Nat)) 0 _ (HV3.out _ (hX'.fr (by repeat (first | with_reducible exact Fr.refl _ _ | (with_reducible refine Fr.drew ?_) | (with_reducible refine Fr.drewN ?_ _) | (with_reducible refine Fr.alloc ?_ _) | ((with_reducible refine Fr.setCell ?_ ?_ _); rotate_left; first | exact .inl rfl | exact .inr (Nat.le_refl _) | exact .inl (Nat.le_refl _) | (focus (left; simp; done)) | (focus (left; simp; omega)) | (focus (left; omega)) | (focus (right; simp; done)) | (focus (right; simp; omega)) | (focus (right; omega))) | exact Fr.refl _ _)))).1 hws).mono ?_
          rintro e w3 ⟨rfl, hN⟩
          have HN2 := (HV3.out _ (hX'.fr (by repeat (first | with_reducible exact Fr.refl _ _ | (with_reducible refine Fr.drew ?_) | (with_reducible refine Fr.drewN ?_ _) | (with_reducible refine Fr.alloc ?_ _) | ((with_reducible refine Fr.setCell ?_ ?_ _); rotate_left; first | exact .inl rfl | exact .inr (Nat.le_refl _) | exact .inl (Nat.le_refl _) | (focus (left; simp; done)) | (focus (left; simp; omega)) | (focus (left; omega)) | (focus (right; simp; done)) | (focus (right; simp; omega)) | (focus (right; omega))) | exact Fr.refl _ _)))).go hN
          clear hX' hN
          go_wp2_with fail
          go_ret
          rw [HR2.out]
          exact ⟨rfl, HN2⟩
        · have hbe : ((t.drop s.pos).take x.length == x) = false := by simpa using he
          have HN4 : Hid (∀ j, j < k + 1 → signAt t s (sgList.getD j []) = false) := HN3.out (by rw [HS.out, decide_eq_false he, Bool.and_false])
          clear HR HN3 HS he HV3
          generalize (t.drop s.pos).take x.length = y at *
          clear hle
          go_wp2
          go_quiet (fail)
          go_wp2
          go_quiet (fail)
          go_wp2_with fail
          go_roundg (13 - (k + 1))
          case measure => rw [HM.out]; omega
          case rel => exact ⟨k + 1, by go_num, by omega, rfl, HN4.out, hX'.fr (by repeat (first | with_reducible exact Fr.refl _ _ | (with_reducible refine Fr.drew ?_) | (with_reducible refine Fr.drewN ?_ _) | (with_reducible refine Fr.alloc ?_ _) | ((with_reducible refine Fr.setCell ?_ ?_ _); rotate_left; first | exact .inl rfl | exact .inr (Nat.le_refl _) | exact .inl (Nat.le_refl _) | (focus (left; simp; done)) | (focus (left; simp; omega)) | (focus (left; omega)) | (focus (right; simp; done)) | (focus (right; simp; omega)) | (focus (right; omega))) | exact Fr.refl _ _))⟩
      · have hd0 : decide ((s.pos : Int) + (x.length : Int) ≤ (t.length : Int)) = false := decide_eq_false (by omega)
        go_wp2
        go_quiet (fail)
        go_wp2
        go_quiet (fail)
        go_wp2_with fail
        go_roundg (13 - (k + 1))
        case measure => rw [HM.out]; omega
        case rel => exact ⟨k + 1, by go_num, by omega, rfl, HN3.out (by rw [HS.out, decide_eq_false (by omega)]; rfl), hX'.fr (by repeat (first | with_reducible exact Fr.refl _ _ | (with_reducible refine Fr.drew ?_) | (with_reducible refine Fr.drewN ?_ _) | (with_reducible refine Fr.alloc ?_ _) | ((with_reducible refine Fr.setCell ?_ ?_ _); rotate_left; first | exact .inl rfl | exact .inr (Nat.le_refl _) | exact .inl (Nat.le_refl _) | (focus (left; simp; done)) | (focus (left; simp; omega)) | (focus (left; omega)) | (focus (right; simp; done)) | (focus (right; simp; omega)) | (focus (right; omega))) | exact Fr.refl _ _))⟩
    · obtain rfl : k = 13 := by omega
      have HR : Hid (sSign t s = (s, false)) := by
        show _ = _
        unfold sSign
        rw [if_neg (findIdx_none HNO.out)]
      clear HNO HM
      go_wp2_with fail
      go_ret
      rw [HR.out]
      exact ⟨rfl, hX'.sn⟩

end Go.Proofs.YtnbhnjokpcdnnaaDoor

namespace Go.Proofs.YtnbhnjokpcdnnaaDoor
open Go.RowKit

set_option maxHeartbeats 3200000 in
set_option maxRecDepth 100000 in
theorem step_split (p : Nat) (t : List UInt8) (s : SS) (L N : Value) (c : UInt8) (w : World) (h : Sp w p t s L N) (hlt : s.pos < t.length) (hn : s.ws.length ≤ 1000) (hnn : s.names.length ≤ 1000) :
    Calls Tryd.prog 18 #[.pointer (some ⟨p, 0, none⟩), .int .u8 c.toNat] w fun e w' => e = .returned (.bool (sStep t c s).2) ∧ Sn p t w L N w' (sStep t c s).1 := by
  have hX := Sx.start h
  have hlen := h.len
  obtain ⟨⟨-, c1, -, -⟩, hf⟩ := h.cells
  have f1 := hf 1
  have hp := h.lt
  have HK : Hid (Sx p t w L N (w.setCell ⟨p, 1, none⟩ (.int .i64 ((s.pos : Int) + 1))) L N { s with pos := s.pos + 1 }) := by
    have := hX.move (s.pos + 1) (by omega)
    rw [Int.natCast_add] at this
    exact this
  clear hf
  have hcb : c.toNat ≤ 255 := by have := c.toNat_lt; omega
  by_cases h32 : c.toNat = 32
  · have HR : Hid (sStep t c s = ({ s with pos := s.pos + 1 }, true)) := by show _ = _; unfold sStep; rw [if_pos (.inl h32)]
    have hbe : ((c.toNat : Int) == 32) = true := by simp [h32]
    clear h h32
    generalize c.toNat = cn at *
    go_enter Tryd.func18, Tryd.ntmps18
    go_wp2_with fail
    go_ret
    rw [HR.out]
    exact ⟨rfl, HK.out.sn⟩
  have hb32 : ((c.toNat : Int) == 32) = false := by simp; omega
  by_cases h10 : c.toNat = 10
  · have HR : Hid (sStep t c s = ({ s with pos := s.pos + 1 }, true)) := by show _ = _; unfold sStep; rw [if_pos (.inr h10)]
    have hbe : ((c.toNat : Int) == 10) = true := by simp [h10]
    clear h h32 h10
    generalize c.toNat = cn at *
    go_enter Tryd.func18, Tryd.ntmps18
    go_wp2_with fail
    go_ret
    rw [HR.out]
    exact ⟨rfl, HK.out.sn⟩
  have hb10 : ((c.toNat : Int) == 10) = false := by simp; omega
  have hno : ¬ (c.toNat = 32 ∨ c.toNat = 10) := by omega
  cases hd : isDig c with
  | true =>
    have HR : Hid (sStep t c s = sNumber t s) := by show _ = _; unfold sStep; rw [if_neg hno, if_pos hd]
    clear h32 h10 hno HK
    go_enter Tryd.func18, Tryd.ntmps18
    go_wp2_with fail
    refine (isDigit_any c _).mono ?_
    rintro e w' ⟨rfl, rfl⟩
    go_wp2_with fail
    refine (number_any p t s L N _ h hn).mono ?_
    rintro e w1 ⟨rfl, hN⟩
    clear h hX
    go_wp2_with fail
    go_ret
    rw [HR.out]
    exact ⟨rfl, hN⟩
  | false =>
    cases hg : begN c with
    | true =>
      have HR : Hid (sStep t c s = (sName t s, true)) := by show _ = _; unfold sStep; rw [if_neg hno, if_neg (by simp [hd]), if_pos hg]
      clear h32 h10 hno HK
      go_enter Tryd.func18, Tryd.ntmps18
      go_wp2_with fail
      refine (isDigit_any c _).mono ?_
      rintro e w' ⟨rfl, rfl⟩
      go_wp2_with fail
      refine (beginsName_any c _).mono ?_
      rintro e w' ⟨rfl, rfl⟩
      go_wp2_with fail
      refine (name_any p t s L N _ h hn hnn).mono ?_
      rintro e w1 ⟨rfl, hN⟩
      clear h hX
      go_wp2_with fail
      go_ret
      rw [HR.out]
      exact ⟨rfl, hN⟩
    | false =>
      have HR : Hid (sStep t c s = sSign t s) := by show _ = _; unfold sStep; rw [if_neg hno, if_neg (by simp [hd]), if_neg (by simp [hg])]
      clear h32 h10 hno HK
      go_enter Tryd.func18, Tryd.ntmps18
      go_wp2_with fail
      refine (isDigit_any c _).mono ?_
      rintro e w' ⟨rfl, rfl⟩
      go_wp2_with fail
      refine (beginsName_any c _).mono ?_
      rintro e w' ⟨rfl, rfl⟩
      go_wp2_with fail
      refine (sign_any p t s L N _ h hn).mono ?_
      rintro e w1 ⟨rfl, hN⟩
      clear h hX
      go_wp2_with fail
      go_ret
      rw [HR.out]
      exact ⟨rfl, hN⟩

/-- How many words and names there may be behind a step. -/
theorem sStep_inv {t : List UInt8} {s : SS} (h1 : s.pos < t.length) (h2 : s.ws.length ≤ s.pos) (h3 : s.names.length ≤ s.pos) :
    (sStep t (t.getD s.pos 0) s).2 = true → s.pos < (sStep t (t.getD s.pos 0) s).1.pos ∧ (sStep t (t.getD s.pos 0) s).1.ws.length ≤ (sStep t (t.getD s.pos 0) s).1.pos ∧ (sStep t (t.getD s.pos 0) s).1.names.length ≤ (sStep t (t.getD s.pos 0) s).1.pos := by
  have hc : t.getD s.pos 0 = t[s.pos] := by simp [h1]
  have hdrop : t.drop s.pos = t[s.pos] :: t.drop (s.pos + 1) := List.drop_eq_getElem_cons h1
  unfold sStep
  split
  · intro _; simp; omega
  split
  · rename_i hd
    intro _
    have : 1 ≤ (digs t s).length := by
      unfold digs
      rw [hdrop, List.takeWhile_cons_of_pos (by rw [← hc]; exact hd)]
      simp
    simp only [sNumber, sAdd, List.length_append, List.length_cons, List.length_nil]
    omega
  split
  · rename_i hd
    intro _
    have : 1 ≤ (nameOf t s).length := by
      unfold nameOf
      rw [hdrop, List.takeWhile_cons_of_pos (by rw [← hc]; show (begN _ || isDig _) = true; rw [hd]; rfl)]
      simp
    unfold sName
    split
    · simp only [sAdd, List.length_append, List.length_cons, List.length_nil]
      omega
    · unfold sCount
      split
      · simp only [sAdd, List.length_append, List.length_cons, List.length_nil]
        omega
      · simp only [sAdd, List.length_append, List.length_cons, List.length_nil]
        omega
  · intro hs
    unfold sSign at hs ⊢
    split at hs
    · rename_i hlt
      rw [if_pos hlt]
      have : 1 ≤ (sgList.getD (sgList.findIdx (signAt t s)) []).length := by
        have : ∀ k, k < 13 → 1 ≤ (sgList.getD k []).length := by decide
        exact this _ hlt
      simp only [sAdd, List.length_append, List.length_cons, List.length_nil]
      omega
    · cases hs

set_option maxHeartbeats 3200000 in
set_option maxRecDepth 100000 in
theorem split_any (t : List UInt8) (n : Nat) (x : List (Int × Int) × Bool) (hx : sSplit t n ⟨0, [], []⟩ = some x) (w : World) (hlen : t.length ≤ 240) (hkw : KW w) :
    Calls Tryd.prog 11 #[.string (bs t)] w fun e w' => Fr (fun _ => False) w w' ∧ x.1.length ≤ 240 ∧ ((x.2 = false ∧ e = .returned (.tuple #[.slice none 0 0, .bool false])) ∨ (x.2 = true ∧ ∃ L, e = .returned (.tuple #[L, .bool true]) ∧ w'.ownsRow 0 73 2 L x.1.length (wordCells x.1))) := by
  have h1 : 1 < w.heap.size := World.block_lt_of_cell? _ _ (hkw.s 0 (by omega))
  have hSp : Sp (w.alloc (.cells #[.string (bs t), .int .i64 0, .slice none 0 0, .slice none 0 0] 60)) w.heap.size t ⟨0, [], []⟩ (.slice none 0 0) (.slice none 0 0) :=
    ⟨heap_alloc_new w _, World.ownsRow_nil _ _ _ _, World.ownsRow_nil _ _ _ _, (fun b h => by cases h), Nat.zero_le _, hlen, hkw.fr (X := fun _ => False) ((Fr.refl _ w).alloc _) (fun _ h => h.elim), by omega⟩
  have hX := Sx.start hSp
  have HX : Hid (sSplit t n ⟨0, [], []⟩ = some x) := hx
  clear hSp hx hkw
  go_enter Tryd.func11, Tryd.ntmps11
  go_wp2_with fail
  go_loopg [] n (fun m wr => ∃ (s : SS) (L N : Value), sSplit t m s = some x ∧ s.ws.length ≤ s.pos ∧ s.names.length ≤ s.pos ∧ Sx w.heap.size t (w.alloc (.cells #[.string (bs t), .int .i64 0, .slice none 0 0, .slice none 0 0] 60)) (.slice none 0 0) (.slice none 0 0) wr L N s)
  case atStart => exact ⟨⟨0, [], []⟩, _, _, HX.out, Nat.le_refl _, Nat.le_refl _, hX⟩
  case round =>
    obtain ⟨s, L, N, hs, hw1, hw2, hX'⟩ := hrel
    clear hX HX
    have HF : Hid (∀ w', Fr (sown w.heap.size (.slice none 0 0) (.slice none 0 0)) (w.alloc (.cells #[.string (bs t), .int .i64 0, .slice none 0 0, .slice none 0 0] 60)) w' → Fr (fun _ => False) w w') := fun w' h => by
      refine Fr.trans ((Fr.refl _ w).alloc _) h ?_
      rintro i (hi | hi | hi)
      · right; omega
      · cases hi
      · cases hi
    cases gk with
    | zero => simp [sSplit] at hs
    | succ k =>
      unfold sSplit at hs
      obtain ⟨⟨c0, c1, c2, -⟩, -⟩ := hX'.1.cells
      have hp := hX'.1.lt
      have hpl := hX'.1.pos
      split at hs
      · rename_i hlt
        obtain ⟨c, hc⟩ : ∃ c, (bs t)[s.pos]'(by rw [bs_size]; exact hlt) = c := ⟨_, rfl⟩
        have hcc : t.getD s.pos 0 = c := by rw [← hc]; simp [hlt]; rfl
        have HI : Hid ((sStep t c s).2 = true → s.pos < (sStep t c s).1.pos ∧ (sStep t c s).1.ws.length ≤ (sStep t c s).1.pos ∧ (sStep t c s).1.names.length ≤ (sStep t c s).1.pos) := by
          have := sStep_inv hlt hw1 hw2
          rw [hcc] at this
          exact this
        rw [hcc] at hs
        have HS : Hid ((if (sStep t c s).2 then sSplit t k (sStep t c s).1 else some ([], false)) = some x) := hs
        clear hs hcc
        go_wp2_with fail
        refine (step_split w.heap.size t s L N c _ hX'.1 hlt (by omega) (by omega)).mono ?_
        rintro e w2 ⟨rfl, hN⟩
        obtain ⟨L2, N2, hX2⟩ := hX'.go hN
        clear hX' hN c0 c1 c2 hc
        cases hb : (sStep t c s).2 with
        | true =>
          have HS2 := HS.out
          rw [if_pos hb] at HS2
          have HS3 : Hid (sSplit t k (sStep t c s).1 = some x) := HS2
          obtain ⟨i1, i2, i3⟩ := HI.out hb
          clear HS HS2 HI
          go_wp2_with fail
          go_roundg k
          case measure => omega
          case rel => exact ⟨_, _, _, HS3.out, i2, i3, hX2⟩
        | false =>
          have HS2 := HS.out
          rw [if_neg (by simp [hb])] at HS2
          have HS3 : Hid (x = ([], false)) := by show x = _; simpa using HS2.symm
          clear HS HS2 HI
          go_wp2_with fail
          go_ret2
          rw [HS3.out]
          exact ⟨HF.out _ hX2.2.1, by simp, .inl ⟨rfl, rfl⟩⟩
      · rename_i hlt
        have HS3 : Hid (x = (s.ws, true)) := by show x = _; simpa using hs.symm
        have hle : s.ws.length ≤ 240 := by omega
        clear hs
        go_wp2_with fail
        go_ret2
        rw [HS3.out]
        exact ⟨HF.out _ hX'.2.1, hle, .inr ⟨rfl, _, rfl, ownsRow_base hX'.1.l (fun _ _ => Nat.zero_le _)⟩⟩

end Go.Proofs.YtnbhnjokpcdnnaaDoor
