import Derived.Test.YtnbhnjokpcdnnaaDoorMA5
import Derived.Test.YtnbhnjokpcdnnaaDoorMA0
set_option linter.unusedVariables false
set_option linter.unusedSimpArgs false
namespace Go.Proofs.YtnbhnjokpcdnnaaDoor
open Go.RowKit

/-- What was read, as it lies in memory. -/
structure Tr (w : World) (s : RS) (E P B : Value) (cE : List Value) : Prop where
  e : w.ownsRow 0 80 8 E s.exps.length cE
  eAt : ExpsAt w (fun _ => False) s.exps cE
  p : w.ownsRow 0 99 5 P s.pats.length (patCells s.pats)
  b : w.ownsRow 0 3 1 B s.bnds.length (s.bnds.map (.int .i64))

theorem ExpsAt.weak {w : World} {O : Nat → Prop} : ∀ (l : List EX) (c : List Value), ExpsAt w O l c → ExpsAt w (fun _ => False) l c
  | [], _, h => h
  | _ :: l, _, ⟨vf, va, c', hc, h1, h2⟩ => ⟨vf, va, c', hc, ⟨h1.f, h1.a, fun _ _ h => h, fun _ _ h => h⟩, ExpsAt.weak l c' h2⟩

theorem Tr.keep {w w' : World} {s : RS} {E P B : Value} {cE : List Value} (h : Tr w s E P B cE) (hb : ∀ b, (E.ownBlock = some b ∨ P.ownBlock = some b ∨ B.ownBlock = some b ∨ Refs cE b) → w'.heap[b]? = w.heap[b]?) : Tr w' s E P B cE :=
  ⟨ownsRow_block h.e fun b hh => hb b (.inl hh), ExpsAt.keep _ _ (fun b hh => hb b (.inr (.inr (.inr hh)))) h.eAt, ownsRow_block h.p fun b hh => hb b (.inr (.inl hh)), ownsRow_block h.b fun b hh => hb b (.inr (.inr (.inl hh)))⟩

theorem cells4 {w : World} {l : Nat} {a b c d : Value} {t : TypeId} (h : w.heap[l]? = some (.cells #[a, b, c, d] t (0, 0))) :
    (w.cell? ⟨l, 0, none⟩ = some a ∧ w.cell? ⟨l, 1, none⟩ = some b ∧ w.cell? ⟨l, 2, none⟩ = some c ∧ w.cell? ⟨l, 3, none⟩ = some d) ∧ w.frozen? ⟨l, 0, none⟩ = false ∧ w.frozen? ⟨l, 1, none⟩ = false ∧ w.frozen? ⟨l, 2, none⟩ = false ∧ w.frozen? ⟨l, 3, none⟩ = false := by
  simp [World.cell?, World.frozen?, h]

/-- The reader, laid out. -/
theorem Rd.made {w : World} {L : Value} {ws : List (Int × Int)} (hL : w.ownsRow 0 73 2 L ws.length (wordCells ws)) (hlen : ws.length ≤ 240) (o : Obj) :
    Rd ((w.alloc o).alloc (.cells #[L, .int .i64 0, .bool false, .slice none 0 0, .slice none 0 0, .int .i64 0, .slice none 0 0] 63)) (w.heap.size + 1) L ws rs0 (.slice none 0 0) (.slice none 0 0) (.slice none 0 0) [] := by
  refine ⟨?_, World.ownsRow_nil _ _ _ _, rfl, World.ownsRow_nil _ _ _ _, World.ownsRow_nil _ _ _ _, (fun b h => by cases h), (fun b h => by cases h), (fun b h => by cases h), (hL.alloc _).alloc _, fun b h => ?_, Nat.zero_le _, hlen⟩
  · have := blk_new (w.alloc o) (.cells #[L, .int .i64 0, .bool false, .slice none 0 0, .slice none 0 0, .int .i64 0, .slice none 0 0] 63)
    simpa [rs0] using this
  · have := (hL.lt b h).2; omega

set_option maxHeartbeats 3200000 in
set_option maxRecDepth 100000 in
theorem read_any (ws : List (Int × Int)) (n : Nat) (x : RS × Int) (h : rdr ws n 0 rs0 = some x) (L : Value) (w : World) (hL : w.ownsRow 0 73 2 L ws.length (wordCells ws)) (hlen : ws.length ≤ 240) :
    Calls Tryd.prog 12 #[L] w fun e w' => Fr (fun _ => False) w w' ∧
      ((rGood ws x.1 = false ∧ e = .returned (.tuple #[.agg #[.slice none 0 0, .slice none 0 0, .int .i64 0, .slice none 0 0], .bool false])) ∨
       (rGood ws x.1 = true ∧ ∃ E P B cE, e = .returned (.tuple #[.agg #[E, P, .int .i64 x.2, B], .bool true]) ∧ Tr w' x.1 E P B cE)) := by
  have hC0 := Cx.start (Rd.made hL hlen (.cells #[.slice none 0 0, .slice none 0 0, .int .i64 0, .slice none 0 0] 46))
  obtain ⟨la, lc, rfl⟩ := ownsRow_len hL
  have hb0 : ((w.alloc (.cells #[.slice none 0 0, .slice none 0 0, .int .i64 0, .slice none 0 0] 46)).alloc (.cells #[.slice la ws.length lc, .int .i64 0, .bool false, .slice none 0 0, .slice none 0 0, .int .i64 0, .slice none 0 0] 63)).heap[w.heap.size]? = some (.cells #[.slice none 0 0, .slice none 0 0, .int .i64 0, .slice none 0 0] 46 (0, 0)) := by
    rw [Below.heap_alloc _ _ _ (by simp), blk_new]
  have H : Hid (Ct ws (fnOf 0) rs0 x) := rdr_ih ws n 0 rs0 x h
  clear h hL
  go_enter Tryd.func12, Tryd.ntmps12
  go_wp2_with fail
  refine (hC0.call (f := fnOf 0) H.out).mono ?_
  rintro e w1 ⟨rfl, hF1, E1, P1, B1, c1, hC1, -⟩
  clear hC0 H
  have hb1 : w1.heap[w.heap.size]? = some (.cells #[.slice none 0 0, .slice none 0 0, .int .i64 0, .slice none 0 0] 46 (0, 0)) := by
    refine (hF1.block _ (by simp; omega) ?_).trans hb0
    rintro (h | h | h | h)
    · omega
    all_goals cases h
  have HF : Hid (Fr (fun _ => False) w w1) := by
    refine Fr.trans (O' := own (w.heap.size + 1) (.slice none 0 0) (.slice none 0 0) (.slice none 0 0)) (((Fr.refl _ w).alloc _).alloc _) hF1 ?_
    rintro i (h | h | h | h)
    · right; omega
    all_goals cases h
  have hR1 := hC1.1
  have hge : ∀ b, (E1.ownBlock = some b ∨ P1.ownBlock = some b ∨ B1.ownBlock = some b ∨ Refs c1 b) → w.heap.size + 2 ≤ b := by
    rintro b (h | h | h | h)
    · exact (hR1.e.lt b h).1
    · exact (hR1.p.lt b h).1
    · exact (hR1.b.lt b h).1
    · rcases hC1.2.2.2 b h with h1 | h1 | h1
      · obtain ⟨v, hv, _⟩ := h1; cases hv
      · simpa using h1
      · exact h1.elim
  have HT : Hid (∀ w', Fr (fun b => b < w.heap.size + 2) w1 w' → Tr w' x.1 E1 P1 B1 c1) := by
    intro w' hw
    refine Tr.keep (w := w1) ⟨ownsRow_base hR1.e (fun _ _ => Nat.zero_le _), ExpsAt.weak _ _ hR1.eAt, ownsRow_base hR1.p (fun _ _ => Nat.zero_le _), ownsRow_base hR1.b (fun _ _ => Nat.zero_le _)⟩ ?_
    intro b hb
    have hlt : b < w1.heap.size := by
      rcases hb with h | h | h | h
      · exact (hR1.e.lt b h).2
      · exact (hR1.p.lt b h).2
      · exact (hR1.b.lt b h).2
      · exact (ExpsAt.lt _ _ hR1.eAt b h).1
    exact hw.block b hlt (by have := hge b hb; omega)
  obtain ⟨hr, k0, k1, k2, k3, k4, k6, hfz⟩ := hR1.cells
  have k5 : w1.cell? ⟨w.heap.size + 1, 5, none⟩ = some (.int .i64 0) := by simp [World.cell?, hR1.blk]
  have f5 := hfz 5
  have hpos := hR1.pos
  obtain ⟨⟨m0, m1, m2, m3⟩, g0, g1, g2, g3⟩ := cells4 hb1
  have hl1 := blk_lt hb1
  obtain ⟨ea, ec, rfl⟩ := ownsRow_len hR1.e
  obtain ⟨pa, pc, rfl⟩ := ownsRow_len hR1.p
  obtain ⟨ba, bc, rfl⟩ := ownsRow_len hR1.b
  clear hC1 hR1 hF1 hge hb0 hfz hb1
  cases hbad : x.1.bad with
  | true =>
    have HG : Hid (rGood ws x.1 = false) := by show _ = _; simp [rGood, hbad]
    go_wp2_with fail
    refine bodyPost_ret (v := .tuple #[.agg #[.slice none 0 0, .slice none 0 0, .int .i64 0, .slice none 0 0], .bool false]) (by simp [results, Tryd.results12, go_sem, m0, m1, m2, m3, g0, g1, g2, g3]) rfl ⟨?_, Or.inl ⟨HG.out, rfl⟩⟩
    repeat (first | exact HF.out | (refine Fr.setCell ?_ (by right; show w.heap.size ≤ _; simp) _))
  | false =>
    by_cases hlt : x.1.pos < ws.length
    · have HG : Hid (rGood ws x.1 = false) := by show _ = _; simp [rGood, hlt]
      go_wp2_with fail
      refine bodyPost_ret (v := .tuple #[.agg #[.slice none 0 0, .slice none 0 0, .int .i64 0, .slice none 0 0], .bool false]) (by simp [results, Tryd.results12, go_sem, m0, m1, m2, m3, g0, g1, g2, g3]) rfl ⟨?_, Or.inl ⟨HG.out, rfl⟩⟩
      repeat (first | exact HF.out | (refine Fr.setCell ?_ (by right; show w.heap.size ≤ _; simp) _))
    · have HG : Hid (rGood ws x.1 = true) := by show _ = _; simp [rGood, hlt, hbad]
      go_wp2_with fail
      refine bodyPost_ret (v := .tuple #[.agg #[.slice ea x.1.exps.length ec, .slice pa x.1.pats.length pc, .int .i64 x.2, .slice ba x.1.bnds.length bc], .bool true]) (by simp [results, Tryd.results12, go_sem, m0, m1, m2, m3, g0, g1, g2, g3]) rfl ⟨?_, Or.inr ⟨HG.out, _, _, _, c1, rfl, HT.out _ ?_⟩⟩
      · repeat (first | exact HF.out | (refine Fr.setCell ?_ (by right; show w.heap.size ≤ _; simp) _))
      · repeat (first | exact Fr.refl _ _ | (refine Fr.setCell ?_ (by left; show _ < w.heap.size + 2; simp) _))

end Go.Proofs.YtnbhnjokpcdnnaaDoor
