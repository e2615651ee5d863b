import Derived.Test.YtklimomeendajaaGreatDoorMC3
import Derived.Test.YtklimomeendajaaGreatDoorMD2
set_option linter.unusedVariables false
set_option linter.unusedSimpArgs false
/- resumekeep: pick, errOf. -/
namespace Go.Proofs.YtklimomeendajaaGreatDoor
open Go.RowKit

set_option maxHeartbeats 800000 in
set_option maxRecDepth 100000 in
theorem pick_c {w : World} {c : Int} (h0 : -9223372036854775808 ≤ c) (h1 : c ≤ 9223372036854775807) (n : Nat) (hn : 0 < n) (hn2 : n ≤ 1000000) :
    Calls Tryz.prog 28 #[iV c, iV n] w fun e w' => w' = w ∧ ∃ k : Nat, k < n ∧ e = .returned (iV k) := by
  go_enter Tryz.func28, Tryz.ntmps28
  have q0 : ¬ ((n : Int) = 0) := by omega
  by_cases hc : c < 0
  · have e1 : IntKind.i64.wrap (c + 1) = c + 1 := by rw [IntKind.wrap_i64]; omega
    have e2 : IntKind.i64.wrap (-(c + 1)) = -(c + 1) := by rw [IntKind.wrap_i64]; omega
    obtain ⟨d, hd⟩ : ∃ d : Nat, -(c + 1) = (d : Int) := ⟨(-(c + 1)).toNat, by omega⟩
    go_wp2_with fail
    go_ret
    exact ⟨rfl, d % n, Nat.mod_lt _ hn, rfl⟩
  · obtain ⟨d, rfl⟩ : ∃ d : Nat, c = (d : Int) := ⟨c.toNat, by omega⟩
    go_wp2_with fail
    go_ret
    exact ⟨rfl, d % n, Nat.mod_lt _ hn, rfl⟩

set_option maxHeartbeats 800000 in
set_option maxRecDepth 100000 in
theorem errOf_c {w : World} (s : List UInt8) :
    Calls Tryz.prog 30 #[.string (bs s)] w fun e w' => w' = w ∧ e = .returned (iV (errN s)) := by
  go_enter Tryz.func30, Tryz.ntmps30
  unfold errN
  by_cases h1 : s = [108, 101, 120]
  · rw [if_pos h1]
    subst h1
    go_wp2_with fail
    go_ret
    exact ⟨rfl, rfl⟩
  rw [if_neg h1]
  have b1 : (s == [108, 101, 120]) = false := by simp [h1]
  by_cases h2 : s = [115, 121, 110, 116, 97, 120]
  · rw [if_pos h2]
    subst h2
    go_wp2_with fail
    go_ret
    exact ⟨rfl, rfl⟩
  rw [if_neg h2]
  have b2 : (s == [115, 121, 110, 116, 97, 120]) = false := by simp [h2]
  by_cases h3 : s = [115, 99, 111, 112, 101]
  · rw [if_pos h3]
    subst h3
    go_wp2_with fail
    go_ret
    exact ⟨rfl, rfl⟩
  rw [if_neg h3]
  have b3 : (s == [115, 99, 111, 112, 101]) = false := by simp [h3]
  go_wp2_with fail
  go_ret
  exact ⟨rfl, rfl⟩
end Go.Proofs.YtklimomeendajaaGreatDoor

namespace Go.Proofs.YtklimomeendajaaGreatDoor
def GOk : Prop := ∀ (w : World) (k : Nat), k < 47 → Calls Tryz.prog 29 #[iV k] w fun e w' => Fr (fun _ => False) w w' ∧ e = .returned (.agg #[.string (bs (gT Tryz.f29 k)), .string (bs (gY Tryz.f29 k)), .string (bs (gV Tryz.f29 k)), iV (gS Tryz.f29 k)])
end Go.Proofs.YtklimomeendajaaGreatDoor

/- Known: the walk. -/
namespace Go.Proofs.YtklimomeendajaaGreatDoor
open Go.RowKit

theorem rowsOk_get (F : Func) : ∀ (n k : Nat), rowsOk F n = true → k < n → rowOk F 2000 k = true
  | 0, k, _, h => absurd h (by omega)
  | n + 1, k, h, hk => by
    unfold rowsOk at h
    rw [Bool.and_eq_true] at h
    by_cases hkn : k = n
    · rw [hkn]; exact h.1
    · exact rowsOk_get F n k h.2 (by omega)

/-- What the twin says of a row. -/
def RowSays (t y v : List UInt8) (s : Int) : Prop :=
  ∃ e o, yComp 2000 t = some (e, o) ∧ ((y = [] ∧ e = errN v) ∨ (y ≠ [] ∧ e = 0 ∧ o = y ∧ ∃ c m, cOf 2000 t = some c ∧ kLoop c 2000 64 (kStart c.root []) = some m ∧ m.st = s ∧ m.tx = v))

theorem row_says {F : Func} {k : Nat} (h : rowOk F 2000 k = true) : RowSays (gT F k) (gY F k) (gV F k) (gS F k) := by
  unfold rowOk at h
  split at h
  · cases h
  rename_i e o he
  refine ⟨e, o, he, ?_⟩
  split at h
  · rename_i hy
    exact .inl ⟨hy, of_decide_eq_true h⟩
  · rename_i hy
    simp only [Bool.and_eq_true, decide_eq_true_eq] at h
    obtain ⟨⟨h1, h2⟩, h3⟩ := h
    split at h3
    · cases h3
    rename_i m hm
    obtain ⟨c, hc, hl⟩ := bindO hm
    simp only [Bool.and_eq_true, decide_eq_true_eq] at h3
    exact .inr ⟨hy, h1, h2, c, m, hc, hl, h3.1, h3.2⟩

theorem cmp_cOf {n : Nat} {t : List UInt8} {c : CX} {o : List UInt8} (h : Cmp n t c o) : cOf n t = some c := by
  obtain ⟨x, r, g, hx, hr, hg, h1, h2, h3, h4, h5⟩ := h
  unfold cOf
  rw [hx]
  simp only [Option.bind_some, hr, hg]
  obtain ⟨ct, cr, cm, ck⟩ := c
  simp only at h1 h2 h3 h5
  subst h1 h2 h3
  simp only [h5, Option.bind_some]

theorem kLoop_step {c : CX} {f n : Nat} {m mf : MX} (h : kLoop c f n m = some mf) : m.pr.length ≤ 1000000000 ∧ ((m.st ≠ 0 ∨ n = 0) → mf = m) ∧ (∀ p, n = p + 1 → m.st = 0 → ∃ m1, kGoes c.t c.ms c.kp f 4000 m = some m1 ∧ kLoop c f p m1 = some mf) := by
  cases n with
  | zero =>
    unfold kLoop at h
    split at h
    · rename_i hp
      injection h with h
      exact ⟨hp, fun _ => h.symm, fun p hp => by omega⟩
    · cases h
  | succ n =>
    unfold kLoop at h
    split at h
    case isFalse => cases h
    case isTrue hp =>
    refine ⟨hp, fun ho => ?_, fun p hpn hs => ?_⟩
    · rcases ho with ho | ho
      · rw [if_neg ho] at h
        injection h with h
        exact h.symm
      · omega
    · obtain rfl : n = p := by omega
      rw [if_pos hs] at h
      exact bindO h

theorem errN_ne (v : List UInt8) : ¬ errN v = 1 := by
  unfold errN
  split
  · decide
  · split
    · decide
    · split <;> decide

theorem set4 {w : World} {q : Nat} {a b c d : Value} {ty : TypeId} (hb : w.heap[q]? = some (.cells #[a, b, c, d] ty (0, 0))) (a' b' c' d' : Value) :
    ((((w.setCell ⟨q, 0, none⟩ a').setCell ⟨q, 1, none⟩ b').setCell ⟨q, 2, none⟩ c').setCell ⟨q, 3, none⟩ d').heap[q]? = some (.cells #[a', b', c', d'] ty (0, 0)) ∧
    Fr (fun b => b = q) w ((((w.setCell ⟨q, 0, none⟩ a').setCell ⟨q, 1, none⟩ b').setCell ⟨q, 2, none⟩ c').setCell ⟨q, 3, none⟩ d') := by
  constructor
  · have h0 := blk_set (i := 0) (v := a') (c' := #[a', b, c, d]) hb rfl
    have h1 := blk_set (i := 1) (v := b') (c' := #[a', b', c, d]) h0 rfl
    have h2 := blk_set (i := 2) (v := c') (c' := #[a', b', c', d]) h1 rfl
    exact blk_set (i := 3) (v := d') (c' := #[a', b', c', d']) h2 rfl
  · exact (by repeat (first | with_reducible exact Fr.refl _ _ | (with_reducible refine Fr.drew ?_) | (with_reducible refine Fr.drewN ?_ _) | (with_reducible refine Fr.alloc ?_ _) | ((with_reducible refine Fr.setCell ?_ ?_ _); rotate_left; first | exact .inl rfl | exact .inr (Nat.le_refl _) | exact .inl (Nat.le_refl _) | (focus (left; simp; done)) | (focus (left; simp; omega)) | (focus (left; omega)) | (focus (right; simp; done)) | (focus (right; simp; omega)) | (focus (right; omega))) | exact Fr.refl _ _))

/-- A block of a state of one's own is written: the machine stays. -/
theorem Mc.side {K : MC} {M x : Nat} {w w' : World} {m : MX} {D : MD} {cc : Array Value} (h : Mc K M w m D) (hF : Fr (fun b => b = x) w w') (hb : w.heap[x]? = some (.cells cc 62 (0, 0))) (hx : M < x) : Mc K M w' m D := by
  have hk : Kp w w' := hF.kp fun b cur ty e hg => by subst e; exact not_vTy hb hg (by unfold vTy; decide)
  refine ⟨(hF.block _ (blk_lt h.blk) (by omega)).trans h.blk, h.cd.keep fun b hc => hF.block b (h.cd.lt b hc) (by have := h.old b hc; omega), h.old, h.inp.keep fun _ b cur _ hg => hF.block b (blk_lt hg) (fun e => ?_), h.sg.keep hk, h.val.keep hk, h.wt.keep hk, rowKeep hF h.pr (fun b hb2 e => ?_), h.ip, h.tb.fr hF (fun b hb => by have := h.three; omega), h.three⟩
  · subst e; exact absurd (ty_eq hg hb) (by decide)
  · subst e
    obtain ⟨cur, hc⟩ := row_blk h.pr hb2
    exact absurd (ty_eq hc hb) (by decide)

/-- How Known's loop stands: so many rounds are left. -/
def Kl (K : MC) (M rb nb sb : Nat) (w : World) (mf : MX) (n : Nat) (t o v : List UInt8) (s : Int) (wr : World) : Prop :=
  ∃ (m : MX) (D : MD) (qa : Option Addr) (qn qc : Nat), kLoop K.c 2000 n m = some mf ∧ Mc K M wr m D ∧ wr.heap[rb]? = some (.cells #[pT M] 128 (0, 0)) ∧ wr.heap[nb]? = some (.cells #[.string (bs t), .string (bs o), .string (bs v), iV s] 54 (0, 0)) ∧
    wr.heap[sb]? = some (.cells #[iV m.st, .string (bz m.tx), .slice qa qn qc, iV m.jm] 62 (0, 0)) ∧ Fr (fun _ => False) w wr

section
variable {w : World} {c : Int}

set_option maxHeartbeats 3200000 in
set_option maxRecDepth 100000 in
theorem known_c (HG : GOk) (h0 : -9223372036854775808 ≤ c) (h1 : c ≤ 9223372036854775807) (hkw : KW w) (htb : TB w) :
    Calls Tryz.prog 11 #[iV c] w fun e w' => Fr (fun _ => False) w w' ∧ e = .returned (.bool true) := by
  have HKW : Hid (KW w) := hkw
  have HTB : Hid (TB w) := htb
  clear hkw htb
  go_enter Tryz.func11, Tryz.ntmps11
  go_wp2_with fail
  refine (pick_c h0 h1 47 (by decide) (by decide)).mono ?_
  rintro e1 w1 ⟨rfl, k, hk, rfl⟩
  go_wp2_with fail
  refine (HG _ k hk).mono ?_
  rintro e1 w2 ⟨hF1, rfl⟩
  have hrow := row_says (rowsOk_get _ 47 k rows47 hk)
  generalize gT Tryz.f29 k = t at hrow ⊢
  generalize gY Tryz.f29 k = y at hrow ⊢
  generalize gV Tryz.f29 k = v at hrow ⊢
  generalize gS Tryz.f29 k = s at hrow ⊢
  obtain ⟨e, o, hyc, hrow⟩ := hrow
  have HYC : Hid (yComp 2000 t = some (e, o)) := hyc
  have hb := blk_new w2 (.cells #[.string (bs t), .string (bs y), .string (bs v), iV s] 54)
  have hFA : Fr (fun _ => False) w1 (w2.alloc (.cells #[.string (bs t), .string (bs y), .string (bs v), iV s] 54)) := hF1.alloc _
  have hsz := hF1.size
  clear hyc hk hF1
  go_wp2_with fail
  generalize w2.alloc (.cells #[.string (bs t), .string (bs y), .string (bs v), iV s] 54) = W at hb hFA ⊢
  have HB : Hid (W.heap[w2.heap.size]? = some (.cells #[.string (bs t), .string (bs y), .string (bs v), iV s] 54 (0, 0))) := hb
  have HFA : Hid (Fr (fun _ => False) w1 W) := hFA
  have HSZ : Hid (w1.heap.size ≤ w2.heap.size) := hsz
  clear hb hFA hsz
  obtain ⟨⟨d0, d1, d2, d3⟩, -⟩ := cells4 HB.out
  have dl := blk_lt HB.out
  rcases hrow with ⟨rfl, rfl⟩ | ⟨hy, rfl, rfl, cx, mf, hcx, hlp, hst, htx⟩
  · have hlen : t.length ≤ 9223372036854775807 := by
      rcases yComp_cases HYC.out with ⟨_, h, _⟩ | ⟨h, _⟩
      · exact absurd h (errN_ne v)
      · omega
    refine (compile_any 2000 t (errN v) o HYC.out W hlen (HKW.out.fr HFA.out (fun _ h => h.elim))).mono ?_
    rintro r3 w3 ⟨hF3, pv, rfl, -⟩
    have HF3 : Hid (Fr (fun _ => False) w1 w3) := HFA.out.trans hF3 (fun _ h => h.elim)
    have hb3 := (hF3.block _ (blk_lt HB.out) id).trans HB.out
    clear d0 d1 d2 d3 dl
    obtain ⟨⟨d0, d1, d2, d3⟩, -⟩ := cells4 hb3
    have dl := blk_lt hb3
    clear hF3 hb3 hlen
    generalize hE : errN v = ev
    have HE : Hid (errN v = ev) := hE
    clear hE
    go_wp2_with fail
    refine (errOf_c v).mono ?_
    rintro r4 w4 ⟨rfl, rfl⟩
    rw [HE.out]
    go_wp2_with fail
    go_ret
    exact ⟨HF3.out, by simp⟩
  · have hlen : t.length ≤ 9223372036854775807 := by
      rcases yComp_cases HYC.out with ⟨_, h, _⟩ | ⟨h, _⟩
      · cases h
      · omega
    refine (compile_any 2000 t 0 o HYC.out W hlen (HKW.out.fr HFA.out (fun _ h => h.elim))).mono ?_
    rintro r3 w3 ⟨hF3, pv, rfl, hpv⟩
    rcases hpv with ⟨hne, -⟩ | ⟨-, pb, c', rfl, hpb, hPg, hCmp⟩
    · exact absurd rfl hne
    have hcc := (cmp_cOf hCmp).symm.trans hcx
    injection hcc with hcc
    subst hcc
    obtain ⟨cb, E, P, B, MV, KV, cE, cK, hpg, hcd⟩ := hPg
    obtain ⟨K, hK⟩ : ∃ K : MC, K = ⟨cb, c', E, P, B, MV, KV, cE, cK⟩ := ⟨_, rfl⟩
    have HKat : Hid (K.at w3) := by show K.at w3; rw [hK]; exact hcd
    have HKc : Hid (K.c = c' ∧ K.cb = cb) := by rw [hK]; exact ⟨rfl, rfl⟩
    have HF3 : Hid (Fr (fun _ => False) w1 w3) := HFA.out.trans hF3 (fun _ h => h.elim)
    have hb3 := (hF3.block _ (blk_lt HB.out) id).trans HB.out
    have HB3 : Hid (w3.heap[w2.heap.size]? = some (.cells #[.string (bs t), .string (bs o), .string (bs v), iV s] 54 (0, 0))) := hb3
    have HPG : Hid (w3.heap[pb]? = some (.cells #[.string (bs o), pT K.cb] 87 (0, 0))) := by show _ = _; rw [HKc.out.2]; exact hpg
    have HLP : Hid (kLoop K.c 2000 64 (kStart K.c.root []) = some mf) := by show _ = _; rw [HKc.out.1]; exact hlp
    have HST : Hid (mf.st = s ∧ mf.tx = v) := ⟨hst, htx⟩
    have hyb : (o == ([] : List UInt8)) = false := by simp [hy]
    clear d0 d1 d2 d3 dl
    obtain ⟨⟨d0, d1, d2, d3⟩, -⟩ := cells4 hb3
    have dl := blk_lt hb3
    clear hF3 hb3 hlen hpb hCmp hcx hcd hpg hlp hst htx hK
    go_wp2_with fail
    refine (type_c HPG.out).mono ?_
    rintro r4 w4 ⟨rfl, rfl⟩
    go_wp2_with fail
    refine (start_c0 HPG.out HKat.out (HTB.out.fr HF3.out (fun _ h => h.elim)) (by decide) (by decide)).mono ?_
    rintro r5 w5 ⟨hF5, rb, M, D, rfl, hM, hrb, hrun, hMc, hD⟩
    have HF5 : Hid (Fr (fun _ => False) w1 w5) := HF3.out.trans hF5 (fun _ h => h.elim)
    have hb5 := (hF5.block _ (blk_lt HB3.out) id).trans HB3.out
    have HB5 : Hid (w5.heap[w2.heap.size]? = some (.cells #[.string (bs t), .string (bs o), .string (bs v), iV s] 54 (0, 0))) := hb5
    have HM5 : Hid (Mc K M w5 (kStart K.c.root []) D) := hMc
    have HR5 : Hid (w5.heap[rb]? = some (.cells #[pT M] 128 (0, 0))) := hrun
    have HMge : Hid (w1.heap.size ≤ M) := Nat.le_trans HF3.out.size hM
    have HM5l : Hid (M < w5.heap.size) := blk_lt hMc.blk
    clear d0 d1 d2 d3 dl
    obtain ⟨⟨d0, d1, d2, d3⟩, -⟩ := cells4 hb5
    have dl := blk_lt hb5
    clear hF5 hM hrb hrun hMc hD hb5 HPG HKat HB HFA HYC
    go_wp2_with fail
    refine (rstate_c HR5.out HM5.out (kLoop_step HLP.out).1).mono ?_
    rintro r6 w6 ⟨hF6, pv, rfl, hpr⟩
    obtain ⟨qa, qn, qc, rfl⟩ : ∃ p q r, pv = .slice p q r := by rcases hpr with ⟨_, rfl⟩ | ⟨_, _, _, rfl, _⟩ <;> exact ⟨_, _, _, rfl⟩
    have hFA : Fr (fun _ => False) w5 (w6.alloc (.cells #[iV (kStart K.c.root []).st, .string (bz (kStart K.c.root []).tx), .slice qa qn qc, iV (kStart K.c.root []).jm] 62)) := hF6.alloc _
    have hs6 := blk_new w6 (.cells #[iV (kStart K.c.root []).st, .string (bz (kStart K.c.root []).tx), .slice qa qn qc, iV (kStart K.c.root []).jm] 62)
    have HSB : Hid (w1.heap.size ≤ w6.heap.size) := Nat.le_trans HF5.out.size hF6.size
    have HMs : Hid (M < w6.heap.size) := Nat.lt_of_lt_of_le HM5l.out hF6.size
    have HKL : Hid (Kl K M rb w2.heap.size w6.heap.size w1 mf 64 t o v s (w6.alloc (.cells #[iV (kStart K.c.root []).st, .string (bz (kStart K.c.root []).tx), .slice qa qn qc, iV (kStart K.c.root []).jm] 62))) :=
      ⟨_, _, qa, qn, qc, HLP.out, HM5.out.fr hFA, (hFA.block _ (blk_lt HR5.out) id).trans HR5.out, (hFA.block _ (blk_lt HB5.out) id).trans HB5.out, hs6, HF5.out.trans hFA (fun _ h => h.elim)⟩
    clear hF6 hpr hFA hs6 HM5 HR5 HB5 HF5 HLP d0 d1 d2 d3 dl
    go_wp2_with fail
    generalize hsb : w6.heap.size = sb at HKL HMs HSB ⊢
    clear hsb
    go_loopg [11] 64 (fun k iv wr => ∃ (i : Nat), iv = .int .i64 i ∧ i ≤ 64 ∧ k = 64 - i ∧ Kl K M rb w2.heap.size sb w1 mf (64 - i) t o v s wr)
    case atStart => exact ⟨0, rfl, by decide, rfl, HKL.out⟩
    case round =>
      obtain ⟨i, rfl, hi, hk, m, D, qa, qn, qc, hlp, hMc, hr, hn, hs, hF⟩ := hrel
      have HM : Hid (gk = 64 - i) := hk
      have HMc : Hid (Mc K M wr m D) := hMc
      have HR : Hid (wr.heap[rb]? = some (.cells #[pT M] 128 (0, 0))) := hr
      have HN : Hid (wr.heap[w2.heap.size]? = some (.cells #[.string (bs t), .string (bs o), .string (bs v), iV s] 54 (0, 0))) := hn
      have HS : Hid (wr.heap[sb]? = some (.cells #[iV m.st, .string (bz m.tx), .slice qa qn qc, iV m.jm] 62 (0, 0))) := hs
      have HF : Hid (Fr (fun _ => False) w1 wr) := hF
      obtain ⟨hpl, hex, hgo⟩ := kLoop_step hlp
      obtain ⟨⟨a0, a1, a2, a3⟩, -⟩ := cells4 hs
      have al := blk_lt hs
      obtain ⟨⟨d0, d1, d2, d3⟩, -⟩ := cells4 hn
      have dl := blk_lt hn
      clear hk hMc hr hn hs hF hlp HKL
      by_cases hend : m.st ≠ 0 ∨ 64 - i = 0
      · have hmf := hex hend
        subst hmf
        have hst := HST.out
        rw [← hst.1, ← hst.2] at HN
        rw [← hst.1] at d3
        rw [← hst.2] at d2
        clear hgo hex hst
        by_cases hi64 : i = 64
        · subst hi64
          go_wp2_with fail
          go_ret
          exact ⟨HF.out, by simp⟩
        · have hs0 : (mf.st == 0) = false := by
            rcases hend with h | h
            · simpa using h
            · omega
          have q1 : (i : Int) < 64 := by omega
          go_wp2_with fail
          go_ret
          exact ⟨HF.out, by simp⟩
      · have hst0 : m.st = 0 := by
          rcases Decidable.em (m.st = 0) with h | h
          · exact h
          · exact absurd (.inl h) hend
        have hi64 : i < 64 := by
          rcases Nat.lt_or_ge i 64 with h | h
          · exact h
          · exact absurd (.inr (by omega)) hend
        obtain ⟨m1, hg, hlp1⟩ := hgo (63 - i) (by omega) hst0
        have HG1 : Hid (kGoes K.c.t K.c.ms K.c.kp 2000 4000 m = some m1) := hg
        have HL1 : Hid (kLoop K.c 2000 (63 - i) m1 = some mf) := hlp1
        rw [hst0] at a0
        have q1 : (i : Int) < 64 := by omega
        clear hend hg hlp1 hex hgo hst0
        go_wp2_with fail
        refine (rgo_c HR.out HMc.out (n := 4000) (by decide) HG1.out).mono ?_
        rintro r7 w7 ⟨rfl, ⟨D7, hM7, hF7, hO7⟩, hr7⟩
        have hF17 : Fr (fun _ => False) w1 w7 := HF.out.trans hF7 (fun b hb => .inr (by
          have := HMge.out
          rcases hb with rfl | hb
          · exact this
          · have := (HMc.out.pr.lt b hb).1; omega))
        have hn7 := (hF7.block _ (blk_lt HN.out) (fun e => by
          rcases e with e | e
          · exact absurd (ty_eq HN.out (e ▸ HMc.out.blk)) (by decide)
          · obtain ⟨cur, hc⟩ := row_blk HMc.out.pr e
            exact absurd (ty_eq HN.out hc) (by decide))).trans HN.out
        have hs7 := (hF7.block _ (blk_lt HS.out) (fun e => by
          rcases e with e | e
          · exact absurd (ty_eq HS.out (e ▸ HMc.out.blk)) (by decide)
          · obtain ⟨cur, hc⟩ := row_blk HMc.out.pr e
            exact absurd (ty_eq HS.out hc) (by decide))).trans HS.out
        have HM7 : Hid (Mc K M w7 m1 D7) := hM7
        have HR7 : Hid (w7.heap[rb]? = some (.cells #[pT M] 128 (0, 0))) := hr7
        have HN7 : Hid (w7.heap[w2.heap.size]? = some (.cells #[.string (bs t), .string (bs o), .string (bs v), iV s] 54 (0, 0))) := hn7
        have HS7 : Hid (w7.heap[sb]? = some (.cells #[iV m.st, .string (bz m.tx), .slice qa qn qc, iV m.jm] 62 (0, 0))) := hs7
        have HF7 : Hid (Fr (fun _ => False) w1 w7) := hF17
        clear hM7 hF7 hO7 hr7 hF17 hn7 hs7 a0 a1 a2 a3 al d0 d1 d2 d3 dl
        go_wp2_with fail
        refine (rstate_c HR7.out HM7.out (kLoop_step HL1.out).1).mono ?_
        rintro r8 w8 ⟨hF8, pv, rfl, hpr⟩
        obtain ⟨ra, rn, rc, rfl⟩ : ∃ p q r, pv = .slice p q r := by rcases hpr with ⟨_, rfl⟩ | ⟨_, _, _, rfl, _⟩ <;> exact ⟨_, _, _, rfl⟩
        have hs8 := (hF8.block _ (blk_lt HS7.out) id).trans HS7.out
        obtain ⟨⟨a0, a1, a2, a3⟩, af0, af1, af2, af3⟩ := cells4 hs8
        have al := blk_lt hs8
        have HS8 : Hid (w8.heap[sb]? = some (.cells #[iV m.st, .string (bz m.tx), .slice qa qn qc, iV m.jm] 62 (0, 0))) := hs8
        have HF8 : Hid (Fr (fun _ => False) w7 w8) := hF8
        clear hF8 hpr hs8
        go_wp2_with fail
        go_roundg (64 - (i + 1))
        case measure => rw [HM.out]; omega
        case rel =>
          have h4 := set4 HS8.out (iV m1.st) (.string (bz m1.tx)) (.slice ra rn rc) (iV m1.jm)
          generalize (((w8.setCell ⟨sb, 0, none⟩ (iV m1.st)).setCell ⟨sb, 1, none⟩ (.string (bz m1.tx))).setCell ⟨sb, 2, none⟩ (.slice ra rn rc)).setCell ⟨sb, 3, none⟩ (iV m1.jm) = X at h4 ⊢
          have hFx : Fr (fun b => b = sb) w7 X := Fr.trans (O := fun b => b = sb) (HF8.out.mono (fun _ h => h.elim)) h4.2 (fun _ h => .inl h)
          have hne : rb ≠ sb ∧ w2.heap.size ≠ sb := ⟨fun e => absurd (ty_eq HR7.out (e ▸ HS7.out)) (by decide), fun e => absurd (ty_eq HN7.out (e ▸ HS7.out)) (by decide)⟩
          exact ⟨i + 1, by go_num, by omega, rfl, m1, D7, ra, rn, rc, by rw [show 64 - (i + 1) = 63 - i by omega]; exact HL1.out, (HM7.out.fr HF8.out).side h4.2 HS8.out HMs.out, (hFx.block _ (blk_lt HR7.out) hne.1).trans HR7.out, (hFx.block _ (blk_lt HN7.out) hne.2).trans HN7.out, h4.1, HF7.out.trans hFx (fun b hb => .inr (by have := HSB.out; omega))⟩
end
end Go.Proofs.YtklimomeendajaaGreatDoor

/- resumekeep.gone. -/
namespace Go.Proofs.YtklimomeendajaaGreatDoor
open Go.RowKit

def goneCells (F : Func) : Nat → List Value
  | 0 => []
  | k + 1 => goneCells F k ++ [.string (bs (gT F k)), .string (bs (gY F k)), .string (bs (gV F k)), iV (gS F k)]

theorem goneCells_len (F : Func) : ∀ n, (goneCells F n).length = n * 4
  | 0 => rfl
  | n + 1 => by simp [goneCells, goneCells_len F n]; omega

theorem goneCells_at (F : Func) : ∀ (n k : Nat), k < n → (goneCells F n)[k * 4]? = some (.string (bs (gT F k))) ∧ (goneCells F n)[k * 4 + 1]? = some (.string (bs (gY F k))) ∧ (goneCells F n)[k * 4 + 2]? = some (.string (bs (gV F k))) ∧ (goneCells F n)[k * 4 + 3]? = some (iV (gS F k))
  | 0, k, h => absurd h (by omega)
  | n + 1, k, h => by
    have hl := goneCells_len F n
    unfold goneCells
    by_cases hk : k < n
    · have := goneCells_at F n k hk
      rw [List.getElem?_append_left (by omega), List.getElem?_append_left (by omega), List.getElem?_append_left (by omega), List.getElem?_append_left (by omega)]
      exact this
    · obtain rfl : k = n := by omega
      rw [List.getElem?_append_right (by omega), List.getElem?_append_right (by omega), List.getElem?_append_right (by omega), List.getElem?_append_right (by omega), hl, Nat.sub_self, show k * 4 + 1 - k * 4 = 1 by omega, show k * 4 + 2 - k * 4 = 2 by omega, show k * 4 + 3 - k * 4 = 3 by omega]
      exact ⟨rfl, rfl, rfl, rfl⟩

theorem wp_world {P : Program} {c : Code} {Q : Exit → Act → World → Prop} {a : Act} {w1 w2 : World} (h : w1 = w2) (H : Code.wp P c Q a w2) : Code.wp P c Q a w1 := h ▸ H

theorem run_bslice {P : Program} (w : World) (t e : TypeId) (len : Nat) (parts : Array (Nat × Value)) (i : TypeInfo) (z : Value) (cells : Array Value) (hu : P.underlying t = some (.slice e)) (hi : P.info? e = some i) (hz : i.zero = some z) (hn : len * i.size ≤ 2 ^ 24) (h0 : ¬ len * i.size = 0)
    (hf : Instr.fill (fun j => some (j * i.size, i.size)) ((Array.range (len * i.size)).map (z.cells[· % z.cells.size]!)) parts.toList = some cells) : (Instr.buildSlice t len parts).run P w = .ok (.slice (some ⟨w.heap.size, 0, none⟩) len len) (w.alloc (.cells cells e)) := by
  have hn' : ¬ (2 ^ 24 < len * i.size) := by omega
  have hn2 : len * i.size ≤ 16777216 := by omega
  simp [Instr.buildSlice, run_underlying hu, sizeOf, typeInfo, zeroValue, hi, hz, hf, newRow]
  rw [if_neg (by omega), if_neg h0]

theorem wp_bslice {P : Program} {o : Oper} {a : Act} {w : World} {K : Act → World → Prop} {Q : Exit → Act → World → Prop} (t e : TypeId) (len : Nat) (parts : Array (Nat × Operand)) (cells : Array Value) (ho : o.op = .buildSlice t len parts) (hu : P.underlying t = some (.slice e))
    (hi : ∃ i z, P.info? e = some i ∧ i.zero = some z ∧ len * i.size ≤ 2 ^ 24 ∧ (¬ len * i.size = 0) ∧ Instr.fill (fun j => some (j * i.size, i.size)) ((Array.range (len * i.size)).map (z.cells[· % z.cells.size]!)) (parts.map fun (i, x) => (i, a.eval x)).toList = some cells)
    (h : K (a.put o.dst (.slice (some ⟨w.heap.size, 0, none⟩) len len)) (w.alloc (.cells cells e))) : o.wp P a w K Q := by
  obtain ⟨i, z, h1, h2, h3, h4, h5⟩ := hi
  unfold Oper.wp execOp
  simp only [ho, Sem.run_bind, run_bslice w t e len _ i z cells hu h1 h2 h3 h4 h5, Result.andThen_ok]
  exact h

end Go.Proofs.YtklimomeendajaaGreatDoor

/- resumekeep.gone. -/
namespace Go.Proofs.YtklimomeendajaaGreatDoor
open Go.RowKit

theorem infoF : (Tryz.prog.info? 54).map (fun i => (i.zero, i.size, i.bytes)) = some (some (.agg #[.string (bz []), .string (bz []), .string (bz []), iV 0]), 4, 56) := by kernel_rfl

set_option maxHeartbeats 3200000 in
set_option maxRecDepth 1000000 in
theorem gone_c {w : World} {k : Nat} (hk : k < 47) :
    Calls Tryz.prog 29 #[iV k] w fun e w' => Fr (fun _ => False) w w' ∧ e = .returned (.agg #[.string (bs (gT Tryz.f29 k)), .string (bs (gY Tryz.f29 k)), .string (bs (gV Tryz.f29 k)), iV (gS Tryz.f29 k)]) := by
  go_enter Tryz.func29, Tryz.ntmps29
  go_upto_region 2 with fail
  refine wp_bslice 123 54 47 _ (goneCells Tryz.f29 47).toArray rfl Tryz.underlying123 ?_ ?_
  · obtain ⟨i, h1, h2, h3, -⟩ := info3 infoF
    refine ⟨i, _, h1, h2, by rw [h3]; decide, by rw [h3]; decide, ?_⟩
    rw [h3]
    kernel_rfl
  · have hF0 : Fr (fun _ => False) w ((w.alloc (.cells #[.string (bz []), .string (bz []), .string (bz []), iV 0] 54)).alloc (.cells (goneCells Tryz.f29 47).toArray 54)) := (by repeat (first | with_reducible exact Fr.refl _ _ | (with_reducible refine Fr.drew ?_) | (with_reducible refine Fr.drewN ?_ _) | (with_reducible refine Fr.alloc ?_ _) | ((with_reducible refine Fr.setCell ?_ ?_ _); rotate_left; first | exact .inl rfl | exact .inr (Nat.le_refl _) | exact .inl (Nat.le_refl _) | (focus (left; simp; done)) | (focus (left; simp; omega)) | (focus (left; omega)) | (focus (right; simp; done)) | (focus (right; simp; omega)) | (focus (right; omega))) | exact Fr.refl _ _))
    have b1 := blk_new w (.cells #[.string (bz []), .string (bz []), .string (bz []), iV 0] 54)
    have b2 := blk_new (w.alloc (.cells #[.string (bz []), .string (bz []), .string (bz []), iV 0] 54)) (.cells (goneCells Tryz.f29 47).toArray 54)
    rw [show (w.alloc (.cells #[.string (bz []), .string (bz []), .string (bz []), iV 0] 54)).heap.size = w.heap.size + 1 by simp] at b2
    have b3 := (Below.heap_alloc (w.alloc (.cells #[.string (bz []), .string (bz []), .string (bz []), iV 0] 54)) (.cells (goneCells Tryz.f29 47).toArray 54) w.heap.size (by simp)).trans b1
    obtain ⟨g0, g1, g2, g3⟩ := goneCells_at Tryz.f29 47 k hk
    rw [show (w.alloc (.cells #[.string (bz []), .string (bz []), .string (bz []), iV 0] 54)).heap.size = w.heap.size + 1 by simp]
    generalize (w.alloc (.cells #[.string (bz []), .string (bz []), .string (bz []), iV 0] 54)).alloc (.cells (goneCells Tryz.f29 47).toArray 54) = W at hF0 b2 b3 ⊢
    have HF0 : Hid (Fr (fun _ => False) w W) := hF0
    obtain ⟨t, ht⟩ : ∃ z, gT Tryz.f29 k = z := ⟨_, rfl⟩
    rw [ht] at g0
    have Ht : Hid (gT Tryz.f29 k = t) := ht
    clear ht
    obtain ⟨y, hy⟩ : ∃ z, gY Tryz.f29 k = z := ⟨_, rfl⟩
    rw [hy] at g1
    have Hy : Hid (gY Tryz.f29 k = y) := hy
    clear hy
    obtain ⟨v, hv⟩ : ∃ z, gV Tryz.f29 k = z := ⟨_, rfl⟩
    rw [hv] at g2
    have Hv : Hid (gV Tryz.f29 k = v) := hv
    clear hv
    obtain ⟨s, hs⟩ : ∃ z, gS Tryz.f29 k = z := ⟨_, rfl⟩
    rw [hs] at g3
    have Hs : Hid (gS Tryz.f29 k = s) := hs
    clear hs
    have y0 : W.cell? ⟨w.heap.size + 1, k * 4, none⟩ = some (.string (bs t)) := by simp only [World.cell?, b2]; simpa using g0
    have y1 : W.cell? ⟨w.heap.size + 1, k * 4 + 1, none⟩ = some (.string (bs y)) := by simp only [World.cell?, b2]; simpa using g1
    have y2 : W.cell? ⟨w.heap.size + 1, k * 4 + 2, none⟩ = some (.string (bs v)) := by simp only [World.cell?, b2]; simpa using g2
    have y3 : W.cell? ⟨w.heap.size + 1, k * 4 + 3, none⟩ = some (iV s) := by simp only [World.cell?, b2]; simpa using g3
    obtain ⟨⟨r0, r1, r2, r3⟩, rf0, rf1, rf2, rf3⟩ := cells4 b3
    have rl := blk_lt b3
    have yl := blk_lt b2
    have q1 : (k : Int) < 47 := by omega
    clear hF0 b1 b2 b3 g0 g1 g2 g3
    go_wp2_with fail
    (try simp only [Exit.inBlock, Exit.then])
    refine bodyPost_ret (v := .agg #[.string (bs t), .string (bs y), .string (bs v), iV s]) ?_ rfl ⟨(by repeat (first | with_reducible exact HF0.out | (with_reducible refine Fr.drew ?_) | (with_reducible refine Fr.drewN ?_ _) | (with_reducible refine Fr.alloc ?_ _) | ((with_reducible refine Fr.setCell ?_ ?_ _); rotate_left; first | exact .inl rfl | exact .inr (Nat.le_refl _) | exact .inl (Nat.le_refl _) | (focus (left; simp; done)) | (focus (left; simp; omega)) | (focus (left; omega)) | (focus (right; simp; done)) | (focus (right; simp; omega)) | (focus (right; omega))))), by rw [Ht.out, Hy.out, Hv.out, Hs.out]⟩
    rw [results_cell rfl]
    go_simp

theorem gOk : GOk := fun _ _ hk => gone_c hk
end Go.Proofs.YtklimomeendajaaGreatDoor
