import Derived.Test.YtnbhnjokpcdnnaaDoorMA8
set_option linter.unusedVariables false
set_option linter.unusedSimpArgs false
namespace Go.Proofs.YtnbhnjokpcdnnaaDoor
section
variable {names : List (List UInt8)} {s : RS}

/-- The program and the reference find the same of a tree. -/
def Eqv (names : List (List UInt8)) (s : RS) (n : Nat) : Prop := ∀ t x sg nms, Te names s n t x → Sg names s sg nms → sg.length + wt t ≤ 1000 → ∃ w, fExp s n x sg = some w ∧ ∀ m, 2 * n ≤ m → bR m t nms = some (!w)

theorem wt_pos_of {t : Code} {n : Nat} {x : Int} (h : Te names s n t x) : 0 < wt t := by
  cases n with
  | zero => exact h.elim
  | succ n =>
    obtain ⟨e, -, h2⟩ := h
    rcases h2 with ⟨-, _, _, -, rfl⟩ | ⟨-, _, _, -, -, rfl⟩ | ⟨-, _, _, -, rfl, -⟩ | ⟨-, _, _, _, -, rfl, -⟩ | ⟨-, _, _, _, rfl, -⟩ | ⟨-, _, _, rfl, -⟩ | ⟨-, _, _, _, _, -, rfl, -⟩ | ⟨-, _, _, rfl, -⟩ | ⟨-, _, _, _, rfl, -⟩
    all_goals
      rw [wt_nd]
      omega

theorem one_wts : ∀ {ds : List Code}, (∀ d ∈ ds, 0 < wt d) → ∀ {d : Code}, d ∈ ds → ds.length + wt d ≤ wts ds + 1
  | [], _, _, h => by cases h
  | a :: l, hp, d, h => by
    rw [wts_cons]
    rcases List.mem_cons.1 h with rfl | h
    · have := len_wts (ds := l) (fun d hd => hp d (List.mem_cons_of_mem _ hd))
      simp
      omega
    · have := one_wts (ds := l) (fun d hd => hp d (List.mem_cons_of_mem _ hd)) h
      have := hp a (List.mem_cons_self ..)
      simp
      omega

theorem funs_eq {n : Nat} (ih : Eqv names s n) : ∀ (ds : List Code) (fs : List (Int × Int × Int)) (sg : List Int) (nms : List (List UInt8)), Tfs names s (Te names s n) ds fs → Sg names s sg nms → (∀ d ∈ ds, sg.length + wt d ≤ 1000) →
    ∃ w, fFuns s (fExp s n) fs sg = some w ∧ ∀ m, 2 * n + 1 ≤ m → ∀ l, bAll (bR m) (ds ++ l) nms = if w then some false else bAll (bR m) l nms
  | [], [], sg, nms, _, _, _ => ⟨false, rfl, fun m _ l => by simp⟩
  | d :: ds, f :: fs, sg, nms, ⟨⟨own, x, b, hd, h1, h2, h3⟩, h4⟩, hS, hl => by
    subst hd
    have hl1 := hl _ (List.mem_cons_self ..)
    rw [wt_nd] at hl1
    simp only [wts_cons, wts_nil] at hl1
    obtain ⟨w1, e1, e2⟩ := ih b f.2.2 (sg ++ [f.2.1]) (nms ++ [x]) h3 (hS.app (Sg.one h2)) (by simp; omega)
    obtain ⟨w2, g1, g2⟩ := funs_eq ih ds fs sg nms h4 hS (fun d hd => hl d (List.mem_cons_of_mem _ hd))
    refine ⟨w1 || w2, ?_, fun m hm l => ?_⟩
    · rw [fFuns]
      unfold fWithin
      rw [h2.bOk, if_pos (by simp; omega), e1]
      simp only [Option.bind_some]
      rw [g1]
      rfl
    · rw [List.cons_append, bAll]
      obtain ⟨m, rfl⟩ : ∃ m', m = m' + 1 := ⟨m - 1, by omega⟩
      rw [bR, if_neg (by rw [kindOf_nd]; decide), if_pos (by rw [kindOf_nd]; decide), subsOf_nd, nmOf_nd]
      simp only [List.getElem?_cons_zero, Option.bind_some]
      rw [e2 m (by omega)]
      simp only [Option.bind_some]
      rw [g2 (m + 1) hm l]
      cases w1 <;> cases w2 <;> rfl
  | [], _ :: _, _, _, h, _, _ => h.elim
  | _ :: _, [], _, _, h, _, _ => h.elim

theorem arms_eq (hN : names.Nodup) {n : Nat} (ih : Eqv names s n) : ∀ (bs qs : List Code) (as : List (Int × Int)) (sg : List Int) (nms : List (List UInt8)), Tas (Te names s n) (Tp names s n) bs qs as → Sg names s sg nms → sg.length + wts bs + wts qs ≤ 1000 →
    ∃ w, fArms s (fExp s n) n as sg = some w ∧ ∀ m, 2 * n + 1 ≤ m → ∀ ok, bArms (bR m) m nms qs bs ok = some (ok && !w)
  | [], [], [], sg, nms, _, _, _ => ⟨false, rfl, fun m _ ok => by simp [bArms]⟩
  | b :: bs, q :: qs, a :: as, sg, nms, ⟨⟨h1, h2⟩, h3⟩, hS, hl => by
    simp only [wts_cons] at hl
    obtain ⟨sg2, inn2, w1, e1, e2, e3, e4⟩ := pat_eq hN sg n q a.1 [] [] h1 trivial (by simp; omega)
    rw [List.append_nil] at e1
    obtain ⟨w2, g1, g2⟩ := ih b a.2 (sg ++ sg2) (nms ++ inn2) h2 (hS.app e3) (by simp at e4 ⊢; omega)
    obtain ⟨w3, k1, k2⟩ := arms_eq hN ih bs qs as sg nms h3 hS (by omega)
    refine ⟨w1 || w2 || w3, ?_, fun m hm ok => ?_⟩
    · rw [fArms, e1]
      simp only [Option.bind_some]
      rw [g1]
      simp only [Option.bind_some]
      rw [k1]
      rfl
    · rw [bArms, e2 m (by omega)]
      simp only [Option.bind_some]
      rw [g2 m (by omega)]
      simp only [Option.bind_some]
      rw [k2 m hm]
      cases ok <;> cases w1 <;> cases w2 <;> cases w3 <;> rfl
  | [], [], _ :: _, _, _, h, _, _ => h.elim
  | [], _ :: _, _, _, _, h, _, _ => h.elim
  | _ :: _, [], _, _, _, h, _, _ => h.elim
  | _ :: _, _ :: _, [], _, _, h, _, _ => h.elim

def plainK (k : List UInt8) : Prop := k ≠ [118, 97, 114] ∧ ¬ (k = [102, 110] ∨ k = [100, 101, 102]) ∧ ¬ (k = [108, 101, 116] ∨ k = [116, 114, 121]) ∧ k ≠ [114, 101, 99] ∧ k ≠ [109, 97, 116, 99, 104]

theorem bR_plain {k : List UInt8} (hk : plainK k) {m : Nat} {z : Int} {subs : List Code} {nms : List (List UInt8)} : bR (m + 1) (nd k z [] [] subs []) nms = bAll (bR m) subs nms := by
  obtain ⟨h1, h2, h3, h4, h5⟩ := hk
  rw [bR, kindOf_nd, if_neg h1, if_neg h2, if_neg h3, if_neg h4, if_neg h5, subsOf_nd]

theorem twoN_plain {k : List UInt8} (h : twoN k = true) : plainK k := by
  unfold twoN at h
  simp only [Bool.or_eq_true, beq_iff_eq] at h
  unfold plainK
  rcases h with ((((((((h | h) | h) | h) | h) | h) | h) | h) | h) | h <;> (subst h; decide)

theorem exp_eq (hN : names.Nodup) : ∀ n, Eqv names s n := by
  intro n
  induction n with
  | zero => intro t x sg nms h; exact h.elim
  | succ n ih =>
    rintro t x sg nms ⟨e, h1, h2⟩ hS hl
    have hlen := hS.len
    have hm : ∀ {P : Nat → Prop}, (∀ m, 2 * n + 1 ≤ m → P (m + 1)) → ∀ m, 2 * (n + 1) ≤ m → P m := by
      intro P h m hm
      obtain ⟨m, rfl⟩ : ∃ m', m = m' + 1 := ⟨m - 1, by omega⟩
      exact h m (by omega)
    rw [fExp, h1]
    simp only [Option.bind_some]
    unfold fE
    rcases h2 with ⟨hk, k, z, hk2, rfl⟩ | ⟨hk, y, k, hk2, hk3, rfl⟩ | ⟨hk, k, a, hk2, rfl, ha⟩ | ⟨hk, k, a, b, hk2, rfl, ha, hb⟩ | ⟨hk, a, b, c, rfl, ha, hb, hc⟩ | ⟨hk, y, b, rfl, hy, hb⟩ | ⟨hk, k, y, a, b, hk2, rfl, hy, ha, hb⟩ | ⟨hk, ds, b, rfl, ⟨-, hf⟩, hb⟩ | ⟨hk, a, bs, qs, rfl, ha, hq⟩
    · have h2 : two e.kind = false := by rcases hk with h | h | h | h | h <;> (rw [h]; rfl)
      rw [if_neg (by omega), if_neg (by omega), if_neg (by rw [h2]; decide), if_neg (by omega), if_neg (by omega), if_neg (by omega), if_neg (by omega), if_neg (by omega)]
      refine ⟨false, rfl, hm fun m _ => ?_⟩
      rw [bR_plain (by rcases hk2 with rfl | rfl | rfl | rfl <;> (unfold plainK; decide))]
      rfl
    · rw [if_pos hk]
      refine ⟨_, rfl, hm fun m _ => ?_⟩
      rw [bR, if_pos kindOf_nd, nmOf_nd]
      unfold fInner
      rw [hk2, Sg.any hN hk3 hS]
      simp
    · rw [wt_nd] at hl
      simp only [wts_cons, wts_nil] at hl
      obtain ⟨w, e1, e2⟩ := ih a e.first sg nms ha hS (by omega)
      rw [if_neg (by omega), if_pos hk]
      refine ⟨w, e1, hm fun m hm' => ?_⟩
      rw [bR_plain (by rcases hk2 with rfl | rfl | rfl <;> (unfold plainK; decide)), bAll, e2 m (by omega)]
      cases w <;> rfl
    · rw [wt_nd] at hl
      simp only [wts_cons, wts_nil] at hl
      obtain ⟨w, e1, e2⟩ := ih a e.first sg nms ha hS (by omega)
      obtain ⟨w', g1, g2⟩ := ih b e.second sg nms hb hS (by omega)
      have hk4 : ¬ e.kind = 4 := by intro h; rw [h] at hk; cases hk
      have hk5 : ¬ (e.kind = 22 ∨ e.kind = 23 ∨ e.kind = 24) := by rintro (h | h | h) <;> (rw [h] at hk; cases hk)
      rw [if_neg hk4, if_neg hk5, if_pos hk, e1, g1]
      refine ⟨w || w', rfl, hm fun m hm' => ?_⟩
      rw [bR_plain (twoN_plain hk2), bAll, e2 m (by omega)]
      simp only [Option.bind_some, bAll]
      rw [g2 m (by omega)]
      cases w <;> cases w' <;> rfl
    · rw [wt_nd] at hl
      simp only [wts_cons, wts_nil] at hl
      obtain ⟨w, e1, e2⟩ := ih a e.first sg nms ha hS (by omega)
      obtain ⟨w', g1, g2⟩ := ih b e.second sg nms hb hS (by omega)
      obtain ⟨w'', k1, k2⟩ := ih c e.third sg nms hc hS (by omega)
      have h2 : two e.kind = false := by rw [hk]; rfl
      rw [if_neg (by omega), if_neg (by omega), if_neg (by rw [h2]; decide), if_pos hk, e1, g1, k1]
      refine ⟨w || w' || w'', rfl, hm fun m hm' => ?_⟩
      rw [bR_plain (by unfold plainK; decide), bAll, e2 m (by omega)]
      simp only [Option.bind_some, bAll]
      rw [g2 m (by omega), k2 m (by omega)]
      cases w <;> cases w' <;> cases w'' <;> rfl
    · rw [wt_nd] at hl
      simp only [wts_cons, wts_nil] at hl
      obtain ⟨w, e1, e2⟩ := ih b e.first (sg ++ [e.binder]) (nms ++ [y]) hb (hS.app (Sg.one hy)) (by simp; omega)
      have h2 : two e.kind = false := by rw [hk]; rfl
      rw [if_neg (by omega), if_neg (by omega), if_neg (by rw [h2]; decide), if_neg (by omega), if_pos hk]
      refine ⟨w, ?_, hm fun m hm' => ?_⟩
      · unfold fWithin
        rw [hy.bOk, if_pos (by simp; omega), e1]
      · rw [bR, if_neg (by rw [kindOf_nd]; decide), if_pos (by rw [kindOf_nd]; decide), subsOf_nd, nmOf_nd]
        simp only [List.getElem?_cons_zero, Option.bind_some]
        exact e2 m (by omega)
    · rw [wt_nd] at hl
      simp only [wts_cons, wts_nil] at hl
      obtain ⟨w, e1, e2⟩ := ih a e.first sg nms ha hS (by omega)
      obtain ⟨w', g1, g2⟩ := ih b e.second (sg ++ [e.binder]) (nms ++ [y]) hb (hS.app (Sg.one hy)) (by simp; omega)
      have h2 : two e.kind = false := by rcases hk with hk | hk <;> (rw [hk]; rfl)
      rw [if_neg (by omega), if_neg (by omega), if_neg (by rw [h2]; decide), if_neg (by omega), if_neg (by omega), if_pos hk, e1]
      refine ⟨w || w', ?_, hm fun m hm' => ?_⟩
      · unfold fWithin
        rw [hy.bOk, if_pos (by simp; omega)]
        simp only [Option.bind_some]
        rw [g1]
        rfl
      · rw [bR, if_neg (by rw [kindOf_nd]; rcases hk2 with rfl | rfl <;> decide), if_neg (by rw [kindOf_nd]; rcases hk2 with rfl | rfl <;> decide), if_pos (by rw [kindOf_nd]; exact hk2), subsOf_nd, nmOf_nd]
        simp only [List.getElem?_cons_zero, List.getElem?_cons_succ, Option.bind_some]
        rw [e2 m (by omega), g2 m (by omega)]
        cases w <;> cases w' <;> rfl
    · rw [wt_nd] at hl
      simp only [wts_app, wts_cons, wts_nil] at hl
      have hdp : ∀ d ∈ ds, 0 < wt d := by
        intro d hd
        have : ∀ (ds : List Code) (fs : List (Int × Int × Int)), Tfs names s (Te names s n) ds fs → ∀ d ∈ ds, 0 < wt d := by
          intro ds
          induction ds with
          | nil => intro _ _ d hd; cases hd
          | cons a l ih2 =>
            intro fs h d hd
            cases fs with
            | nil => exact h.elim
            | cons f fs =>
              obtain ⟨⟨_, _, _, h1, _⟩, h2⟩ := h
              rcases List.mem_cons.1 hd with rfl | hd
              · rw [h1, wt_nd]; omega
              · exact ih2 fs h2 d hd
        exact this ds e.funs hf d hd
      have hdl := len_wts hdp
      have hone := fun d hd => one_wts hdp (d := d) hd
      obtain ⟨sg2, w1, e1, e2, e3⟩ := binds_eq hN sg ds e.funs [] [] hf trivial (by simp; omega)
      rw [List.append_nil] at e1
      simp only [List.nil_append] at e3
      have hl2 := e3.len
      simp at hl2
      obtain ⟨w2, g1, g2⟩ := funs_eq ih ds e.funs (sg ++ sg2) (nms ++ ds.map ownOf) hf (hS.app e3) (fun d hd => by have := hone d hd; simp [hl2]; omega)
      obtain ⟨w3, k1, k2⟩ := ih b e.first (sg ++ sg2) (nms ++ ds.map ownOf) hb (hS.app e3) (by simp [hl2]; omega)
      have h2 : two e.kind = false := by rw [hk]; rfl
      rw [if_neg (by omega), if_neg (by omega), if_neg (by rw [h2]; decide), if_neg (by omega), if_neg (by omega), if_neg (by omega), if_pos hk]
      refine ⟨w1 || w2 || w3, ?_, hm fun m hm' => ?_⟩
      · unfold fLetRec
        rw [e1]
        simp only [Option.bind_some]
        rw [g1]
        simp only [Option.bind_some]
        rw [k1]
        rfl
      · rw [bR, if_neg (by rw [kindOf_nd]; decide), if_neg (by rw [kindOf_nd]; decide), if_neg (by rw [kindOf_nd]; decide), if_pos (by rw [kindOf_nd]), subsOf_nd, List.dropLast_concat, ← e2]
        cases w1 with
        | true => rfl
        | false =>
          rw [if_neg (by decide), g2 m (by omega)]
          cases w2 with
          | true => rfl
          | false =>
            rw [if_neg (by decide), bAll, k2 m (by omega)]
            cases w3 <;> rfl
    · rw [wt_nd] at hl
      simp only [wts_cons] at hl
      obtain ⟨w, e1, e2⟩ := ih a e.first sg nms ha hS (by omega)
      obtain ⟨w', g1, g2⟩ := arms_eq hN ih bs qs e.arms sg nms hq hS (by omega)
      have h2 : two e.kind = false := by rw [hk]; rfl
      rw [if_neg (by omega), if_neg (by omega), if_neg (by rw [h2]; decide), if_neg (by omega), if_neg (by omega), if_neg (by omega), if_neg (by omega), if_pos hk]
      refine ⟨w || w', ?_, hm fun m hm' => ?_⟩
      · unfold fMatch
        rw [e1]
        simp only [Option.bind_some]
        rw [g1]
        rfl
      · rw [bR, if_neg (by rw [kindOf_nd]; decide), if_neg (by rw [kindOf_nd]; decide), if_neg (by rw [kindOf_nd]; decide), if_neg (by rw [kindOf_nd]; decide), if_pos (by rw [kindOf_nd]), subsOf_nd, patsOf_nd]
        simp only [List.getElem?_cons_zero, Option.bind_some]
        rw [e2 m (by omega)]
        simp only [Option.bind_some, List.drop_succ_cons, List.drop_zero]
        rw [g2 m (by omega)]
        cases w <;> cases w' <;> rfl
end
end Go.Proofs.YtnbhnjokpcdnnaaDoor

namespace Go.Proofs.YtnbhnjokpcdnnaaDoor
section
variable {ws : List RW}

def wk (k : Nat) : Nat := if k = 9 then 3 else if k = 10 then 5 else 1

theorem one_wt {i : Nat} {t : Code} (h : one1 ws i t) : wt t = 1 := by
  unfold one1 at h
  split at h
  · rw [h, wt_nd]; rfl
  split at h
  · rw [h, wt_nd]; rfl
  split at h
  · rw [h, wt_nd]; rfl
  split at h
  · rw [h, wt_nd]; rfl
  split at h
  · rw [h, wt_nd]; rfl
  split at h
  · rw [h, wt_nd]; rfl
  · exact h.elim

theorem inf_wt {R : Nat → Nat → Nat → Code → Prop} (ih : ∀ k i j t, R k i j t → i < j ∧ wt t + wk k ≤ 2 * (j - i)) {i j l r a : Nat} {x y : List UInt8} {t : Code} (hl : wk l = 1) (hr : wk r = 1) (ha : wk a = 1) (h : bInf ws R i j l r a x y t) : wt t + 1 ≤ 2 * (j - i) := by
  rcases h with h | ⟨p, a', b', g1, g2, -, g3, g4, rfl⟩
  · have := ih _ _ _ _ h; omega
  · have h1 := ih _ _ _ _ g3
    have h2 := ih _ _ _ _ g4
    rw [wt_nd]
    simp only [wts_cons, wts_nil]
    omega

theorem round_wt {R : Nat → Nat → Nat → Code → Prop} (ih : ∀ k i j t, R k i j t → i < j ∧ wt t + wk k ≤ 2 * (j - i)) {i j k : Nat} {t : Code} (hk : wk k = 1) (h : bRound ws R i j k t) : wt t + 1 ≤ 2 * (j - i) := by
  obtain ⟨-, -, h | ⟨p, a, b, g1, g2, -, g3, g4, rfl⟩⟩ := h
  · have := ih _ _ _ _ h; omega
  · have h1 := ih _ _ _ _ g3
    have h2 := ih _ _ _ _ g4
    rw [wt_nd]
    simp only [wts_cons, wts_nil]
    omega

theorem wt_bd {R : Nat → Nat → Nat → Code → Prop} (ih : ∀ k i j t, R k i j t → i < j ∧ wt t + wk k ≤ 2 * (j - i)) {k i j : Nat} {t : Code} (h : Bd ws R k i j t) : i < j ∧ wt t + wk k ≤ 2 * (j - i) := by
  obtain ⟨h0, h⟩ := h
  refine ⟨h0, ?_⟩
  have WK : wk 0 = 1 ∧ wk 1 = 1 ∧ wk 5 = 1 ∧ wk 6 = 1 ∧ wk 7 = 1 ∧ wk 9 = 3 ∧ wk 10 = 5 := by decide
  match k, h with
  | 0, h =>
    show wt t + 1 ≤ _
    replace h : bExp ws R i j t := h
    unfold bExp at h
    split at h
    · rcases h with ⟨-, p, ds, b, g1, g2, -, g3, g4, rfl⟩ | ⟨-, -, p, a, b, g1, g2, -, g3, g4, rfl⟩
      · have h1 := ih _ _ _ _ g3
        have h2 := ih _ _ _ _ g4
        rw [wt_nd] at h1 ⊢
        simp only [wts_app, wts_cons, wts_nil] at h1 ⊢
        omega
      · have h1 := ih _ _ _ _ g3
        have h2 := ih _ _ _ _ g4
        rw [wt_nd]
        simp only [wts_cons, wts_nil]
        omega
    split at h
    · obtain ⟨-, -, b, g, rfl⟩ := h
      have h1 := ih _ _ _ _ g
      rw [wt_nd]
      simp only [wts_cons, wts_nil]
      omega
    split at h
    · obtain ⟨p, q, a, b, d, g1, g2, -, g3, g4, g5, -, g6, g7, rfl⟩ := h
      have h1 := ih _ _ _ _ g3
      have h2 := ih _ _ _ _ g6
      have h3 := ih _ _ _ _ g7
      rw [wt_nd]
      simp only [wts_cons, wts_nil]
      omega
    split at h
    · obtain ⟨-, p, a, bs, qs, g1, g2, -, g3, g4, rfl⟩ := h
      have h1 := ih _ _ _ _ g3
      have h2 := ih _ _ _ _ g4
      rw [wt_nd] at h2 ⊢
      simp only [wts_cons, wts_nil]
      omega
    split at h
    · obtain ⟨-, p, a, b, g1, g2, -, g3, -, -, g4, rfl⟩ := h
      have h1 := ih _ _ _ _ g3
      have h2 := ih _ _ _ _ g4
      rw [wt_nd]
      simp only [wts_cons, wts_nil]
      omega
    · have h1 := ih _ _ _ _ h
      omega
  | 1, h => exact inf_wt ih rfl rfl rfl h
  | 2, h => exact inf_wt ih rfl rfl rfl h
  | 3, h => exact inf_wt ih rfl rfl rfl h
  | 4, h => exact inf_wt ih rfl rfl rfl h
  | 5, h =>
    show wt t + 1 ≤ _
    replace h : bApp ws R i j t := h
    unfold bApp at h
    split at h
    · obtain ⟨a, g, rfl⟩ := h
      have h1 := ih _ _ _ _ g
      rw [wt_nd]
      simp only [wts_cons, wts_nil]
      omega
    split at h
    · rcases h with ⟨p, a, b, g1, g2, g3, g4, rfl⟩ | h
      · have h1 := ih _ _ _ _ g3
        have h2 := ih _ _ _ _ g4
        rw [wt_nd]
        simp only [wts_cons, wts_nil]
        omega
      · exact (ih _ _ _ _ h).2
    · rcases h with ⟨p, a, b, g1, g2, g3, g4, rfl⟩ | h
      · have h1 := ih _ _ _ _ g3
        have h2 := ih _ _ _ _ g4
        rw [wt_nd]
        simp only [wts_cons, wts_nil]
        omega
      · exact (ih _ _ _ _ h).2
  | 6, h =>
    show wt t + 1 ≤ _
    replace h : bAtom ws R i j t := h
    unfold bAtom at h
    split at h
    · rw [one_wt h]; omega
    · exact round_wt ih rfl h
  | 7, h => exact inf_wt ih rfl rfl rfl h
  | 8, h =>
    show wt t + 1 ≤ _
    replace h : bSimple ws R i j t := h
    unfold bSimple at h
    split at h
    · exact round_wt ih rfl h
    split at h
    · rw [h, wt_nd]
      simp only [wts_nil]
      omega
    · rw [one_wt h.1]; omega
  | 9, h =>
    show wt t + 3 ≤ _
    obtain ⟨p, q, g1, g2, -, g3, e, b, g4, g5, g6, ⟨g7, rfl⟩ | ⟨g7, -, bs, qs, g8, rfl⟩⟩ := h
    · have h1 := ih _ _ _ _ g3
      have h2 := ih _ _ _ _ g6
      rw [wt_nd]
      simp only [wts_cons, wts_nil]
      omega
    · have h1 := ih _ _ _ _ g3
      have h2 := ih _ _ _ _ g6
      have h3 := ih _ _ _ _ g8
      rw [wt_nd] at h3 ⊢
      simp only [wts_cons, wts_nil]
      omega
  | 10, h =>
    show wt t + 5 ≤ _
    obtain ⟨-, -, -, p, b, g1, g2, g3, ⟨g4, rfl⟩ | ⟨g4, -, ds, g5, rfl⟩⟩ := h
    · have h1 := ih _ _ _ _ g3
      rw [wt_nd]
      simp only [wts_cons, wts_nil]
      rw [wt_nd]
      simp only [wts_cons, wts_nil]
      omega
    · have h1 := ih _ _ _ _ g3
      have h3 := ih _ _ _ _ g5
      rw [wt_nd] at h3 ⊢
      simp only [wts_cons, wts_nil] at h3 ⊢
      rw [wt_nd]
      simp only [wts_cons, wts_nil]
      omega
  | k + 11, h => exact h.elim

theorem wt_der : ∀ (n k i j : Nat) (t : Code), der ws n k i j t → i < j ∧ wt t + wk k ≤ 2 * (j - i)
  | 0, _, _, _, _, h => h.elim
  | n + 1, _, _, _, _, h => wt_bd (wt_der n) h
end

theorem sSplit_up {t : List UInt8} : ∀ (n m : Nat) (s : SS) (r : List (Int × Int) × Bool), n ≤ m → sSplit t n s = some r → sSplit t m s = some r
  | 0, _, _, _, _, h => by cases h
  | n + 1, 0, _, _, h, _ => by omega
  | n + 1, m + 1, s, r, h, hr => by
    rw [sSplit] at hr ⊢
    split at hr
    · rename_i h1
      rw [if_pos h1]
      split at hr
      · rename_i h2
        rw [if_pos h2]
        exact sSplit_up n m _ r (by omega) hr
      · rename_i h2
        rw [if_neg h2]
        exact hr
    · rename_i h1
      rw [if_neg h1]
      exact hr

/-- Long texts. -/
theorem plain_long {t : List UInt8} (h : 240 < t.length) (n : Nat) : cErr n t = some 1 := by
  unfold cErr
  rw [if_pos h]

theorem plain_lex {t : List UInt8} (h : t.length ≤ 240) {n : Nat} {ws : List RW} (hw : wordsR n t [] = some (ws, false)) : ∃ N, ∀ n, N ≤ n → cErr n t = some 2 := by
  obtain ⟨L, ⟨m, h1⟩, -⟩ := words_agree (t := t) n t [] [] [] 0 rfl (by simp) (WsOk.nil _) ws false hw
  refine ⟨m, fun n hn => ?_⟩
  unfold cErr
  rw [if_neg (by omega), sSplit_up m n _ _ hn h1]
  rfl

/-- The words, and how the reader comes through. -/
theorem plain_read {t : List UInt8} (h : t.length ≤ 240) {n : Nat} {ws : List RW} (hw : wordsR n t [] = some (ws, true)) (hl : ws.length ≤ 240) :
    ∃ names L m, names.Nodup ∧ WsOk names L ws ∧ (∀ k, m ≤ k → sSplit t k ⟨0, [], []⟩ = some (L, true)) ∧ (∀ k, m ≤ k → ∃ s' x, rdr L k 0 rs0 = some (s', x) ∧ s'.pos ≤ L.length ∧ sz s' ≤ 3 * L.length + 1 ∧ (s'.bad = false → ∃ T, Dv ws 0 0 s'.pos T)) := by
  obtain ⟨L, ⟨m, h1⟩, h2⟩ := words_agree (t := t) n t [] [] [] 0 rfl (by simp) (WsOk.nil _) ws true hw
  obtain ⟨names, hN, hW⟩ := h2 rfl
  refine ⟨names, L, m + 4000, hN, hW, fun k hk => sSplit_up m k _ _ (by omega) h1, fun k hk => ?_⟩
  have hL : L.length ≤ 240 := by rw [hW.1]; exact hl
  have LV := lv
  have SV := slv
  have PV := plv
  have hsz : sz rs0 = 0 := rfl
  have hp0 : rs0.pos = 0 := rfl
  obtain ⟨s', x, e, q1, q2, q3, -, q4⟩ := (q_all hW k).go 0 rs0 (by decide) (Nat.zero_le _) (by omega) (by omega) trivial
  refine ⟨s', x, e, q2, by omega, fun hb => (q4 hb).2⟩

theorem plain_syntax {t : List UInt8} (h : t.length ≤ 240) {n : Nat} {ws : List RW} (hw : wordsR n t [] = some (ws, true)) (hl : ws.length ≤ 240) (hno : ∀ T, ¬ Dv ws 0 0 ws.length T) : ∃ N, ∀ n, N ≤ n → cErr n t = some 3 := by
  obtain ⟨names, L, m, hN, hW, h1, h2⟩ := plain_read h hw hl
  refine ⟨m, fun n hn => ?_⟩
  obtain ⟨s', x, e, g1, g2, g3⟩ := h2 n hn
  unfold cErr
  rw [if_neg (by omega), h1 n hn]
  simp only [Option.bind_some, if_true]
  unfold cRead
  rw [e]
  simp only [Option.bind_some]
  have : rGood L s' = false := by
    cases hb : s'.bad with
    | true => simp [rGood, hb]
    | false =>
      obtain ⟨T, hT⟩ := g3 hb
      have : s'.pos < L.length := by
        by_cases hp : s'.pos < L.length
        · exact hp
        · exact (hno T (by rw [← hW.1, show L.length = s'.pos by omega]; exact hT)).elim
      simp [rGood, this]
  rw [this]
  rfl

/-- A tree, and how its names stand: what Compile says from some n on. -/
theorem plain_tree {t : List UInt8} (h : t.length ≤ 240) {n : Nat} {ws : List RW} (hw : wordsR n t [] = some (ws, true)) (hl : ws.length ≤ 240) {T : Code} (hT : Dv ws 0 0 ws.length T) :
    ∃ names s m x w, Te names s m T x ∧ wt T ≤ 480 ∧ (∀ k, 2 * m ≤ k → bR k T [] = some (!w)) ∧ ∃ N, ∀ n, N ≤ n → cErr n t = some (if w then 4 else 0) := by
  obtain ⟨names, L, m, hN, hW, h1, h2⟩ := plain_read h hw hl
  obtain ⟨d, hd⟩ := hT
  have hwt := (wt_der d 0 0 ws.length T hd).2
  have hwt2 : wt T ≤ 480 := by simp only [wk] at hwt; omega
  have hLl := hW.1
  have main : ∀ K, m + d ≤ K → ∃ s' x w, Te names s' K T x ∧ (∀ k, 2 * K ≤ k → bR k T [] = some (!w)) ∧ cErr K t = some (if w then 4 else 0) := by
    intro K hK
    obtain ⟨s', x, e, g1, g2, g3⟩ := h2 K (by omega)
    obtain ⟨u1, u2, u3, u4⟩ := (c_all hW d).e (k := 0) (Nat.le_refl _) (by decide) hd (fo_of (L := L) (c := 0) (kd_out (by omega)) (by decide)) (s := rs0) e rfl rfl (by omega)
    have u5 := Te.up (Ext.refl s') d K (by omega) _ _ u4
    obtain ⟨w, f1, f2⟩ := exp_eq (s := s') hN K T x [] [] u5 trivial (by simp; omega)
    refine ⟨s', x, w, u5, f2, ?_⟩
    unfold cErr
    rw [if_neg (by omega), h1 K (by omega)]
    simp only [Option.bind_some, if_true]
    unfold cRead
    rw [e]
    simp only [Option.bind_some]
    have hg : rGood L s' = true := by
      simp only [] at u1 u2
      simp [rGood, u1, u2, hLl]
    rw [hg]
    simp only [if_true]
    unfold cScope
    have hsz : s'.exps.length ≤ 200000 ∧ s'.bnds.length ≤ 200000 := by unfold sz at g2; omega
    rw [if_pos hsz]
    simp only []
    rw [f1]
    rfl
  obtain ⟨s', x, w, v1, v2, v3⟩ := main (m + d) (Nat.le_refl _)
  refine ⟨names, s', m + d, x, w, v1, hwt2, v2, m + d, fun K hK => ?_⟩
  obtain ⟨s2, x2, w2, -, y2, y3⟩ := main K hK
  have e1 := v2 (2 * K) (by omega)
  have e2 := y2 (2 * K) (Nat.le_refl _)
  rw [e1] at e2
  injection e2 with e2
  have : w = w2 := by cases w <;> cases w2 <;> simp_all
  rw [y3, this]

/-- There are no more words than bytes. -/
theorem words_len : ∀ (n : Nat) (s : List UInt8) (out ws : List RW) (ok : Bool), wordsR n s out = some (ws, ok) → ws.length ≤ out.length + s.length
  | 0, _, _, _, _, h => by cases h
  | n + 1, s, out, ws, ok, h => by
    rw [wordsR] at h
    split at h
    · simp at h; obtain ⟨rfl, -⟩ := h; omega
    rename_i h0
    split at h
    · have := words_len n _ _ _ _ h; simp at this; omega
    split at h
    · rename_i h1
      split at h
      · simp at h; obtain ⟨rfl, -⟩ := h; simp
      · have := words_len n _ _ _ _ h; simp at this; omega
    split at h
    · rename_i h1
      have := words_len n _ _ _ _ h
      match s, h0, h1, this with
      | c :: l, _, h1, this =>
        rw [run_letters] at h1
        have hb := run_pos.1 h1
        have : 0 < (runOf (c :: l) lettDigR).length := by
          rw [run_lettDig]
          exact run_pos.2 (by unfold onN; rw [hb]; rfl)
        simp at *
        omega
      | [], h0, _, _ => exact (h0 rfl).elim
    split at h
    · rename_i h2
      have := words_len n _ _ _ _ h
      unfold twoR at h2
      simp at h2 this
      omega
    split at h
    · have := words_len n _ _ _ _ h; simp at this; omega
    · simp at h; obtain ⟨rfl, -⟩ := h; simp

end Go.Proofs.YtnbhnjokpcdnnaaDoor
