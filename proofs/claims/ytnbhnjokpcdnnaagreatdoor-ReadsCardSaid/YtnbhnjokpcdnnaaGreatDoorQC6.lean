import Derived.Test.YtnbhnjokpcdnnaaGreatDoorQC5
import Derived.Deep.RegionLaw
set_option linter.unusedSimpArgs false
set_option linter.unusedVariables false

namespace Go.Proofs.YtnbhnjokpcdnnaaGreatDoor
open Go.RowKit

section
variable {y base K : Nat} {w w1 w2 : World} {s s1 : TyS} {l : List EN} {bp : Nat → Value} {ns : List (List UInt8)} {f d M N c c1 c2 : Nat}

/-- Typing on, in a world that has grown, with one name more. -/
theorem exp_in (IH : ExOk y base K) {x : List UInt8} {t : Code} {u v a : Nat} {p : Value} {o0 : Option Addr} (h0 : Cy y base w s) (h1 : Stp y base w s w1 s1 c1) (hE : EnT w1 base l bp s1) (ho : bp 0 = .pointer o0) (ha : tyB s1.m a) (hO : EO f d M l ns) (hC : Cst N (x :: ns) t u v) (hd : d + wt t < K) (hN : Nd w1 (fun b => base ≤ b) t p) (hp : pot w s + (c : Int) ≤ 9223372036854775807) (hc : c1 + (M * u + v) ≤ c) (w2 : World) (b' : Nat) (hF : Fr (fun _ => False) w1 w2) (hb : base ≤ b') (hblk : w2.heap[b']? = some (.cells #[.string (bs x), .pointer (some ⟨a, 0, none⟩), .pointer none, .slice none 0 0, .pointer none, .pointer o0] 107 (0, 0))) :
    Calls Tryz.prog 24 #[.pointer (some ⟨y, 0, none⟩), p, .pointer (some ⟨b', 0, none⟩)] w2 fun e w' => ∃ s' q, e = .returned (.pointer (some ⟨q, 0, none⟩)) ∧ Stp y base w s w' s' (c1 + (M * u + v)) ∧ tyB s'.m q ∧ ∀ a, tyB s1.m a → tyB s'.m a := by
  have hG := Stp.grow h1.cy hF
  have hE2 := hE.stp h1.cy hG
  have q1 := hG.pot
  have q2 := h1.pot
  have h2 := hE2.cons (e := ⟨x, some a, none, [], 0⟩) hb (by rw [ho]; exact hblk) rfl (.inl ⟨rfl, rfl⟩) (by simp) (by simp; exact ha)
  refine (IH (c := M * u + v) hG.cy h2 (hO.plain x a) hC hd (hG.nd h1.cy hN) (Nat.le_refl _) (by omega)).mono ?_
  rintro e w' ⟨s', q, rfl, hS, hq⟩
  exact ⟨s', q, rfl, ((h1.trans h0 hG).trans h0 hS).le (by omega), hq, fun a ha => hS.up a ha⟩

set_option maxHeartbeats 3200000 in
set_option maxRecDepth 100000 in
theorem function_ref (IH : ExOk y base K) {k x o : List UInt8} {z : Int} {b : Code} {ub vb : Nat} {pats : List Code} {p : Value} (h0 : Cy y base w s) (hE : EnT w base l bp s) (hO : EO f d M l ns) (hC : Cst N (x :: ns) b ub vb) (hd : d + wt b < K) (hN : Nd w (fun b => base ≤ b) (nd k z x o [b] pats) p) (hc : M * ub + vb + 2 ≤ c) (hp : pot w s + (c : Int) ≤ 9223372036854775807) :
    Calls Tryz.prog 46 #[ptrV y, p, bp 0] w (TyR y base w s c) := by
  obtain ⟨bb, rfl, -, hblt⟩ := hN.ptr
  obtain ⟨o0, ho⟩ := hE.env.ptr
  rw [ho]
  have H0 : Hid (Cy y base w s) := h0
  have HE : Hid (EnT w base l bp s) := hE
  have HN : Hid (Nd w (fun b => base ≤ b) (nd k z x o [b] pats) (.pointer (some ⟨bb, 0, none⟩))) := hN
  clear h0 hE hN
  go_enter Tryz.func46, Tryz.ntmps46
  go_wp2_with fail
  refine (kind0 H0.out (by decide) (by decide)).mono ?_
  rintro e w1 ⟨s1, a, rfl, hS1, ha⟩
  have hN1 := hS1.nd H0.out HN.out
  have hE1 := HE.out.stp H0.out hS1
  have hz1 := hS1.cy.size
  obtain ⟨c0, c2, -⟩ := hN1.cells
  obtain ⟨g, gc, pv, hb1, k4, hgl, hcell, hNs⟩ := hN1.sub (i := 0) (by simp)
  have HC := exp_in IH H0.out hS1 hE1 ho ha hO hC hd hNs hp (by omega)
  have HH : Hid (_) := HC
  have HA : Hid (tyB s1.m a) := ha
  simp only [ptrV]
  clear hS1 hN1 hNs hE1 HC ha
  go_wp2_with fail
  go_region_law (rw [if_pos (by simp [Region.wanted])]; unfold Oper.wp; go_simp; go_at_call 24; refine (HH.out _ _ (by repeat (first | exact Fr.refl _ _ | (refine Fr.setCell ?_ (by first | exact .inl rfl | exact .inr (Nat.le_refl _) | (right; simp; omega)) _) | refine Fr.drewN ?_ _ | refine Fr.drew ?_ | refine Fr.alloc ?_ _)) hz1 (by first | exact (MapKept.heap_alloc w1 _).1 | exact (MapKept.heap_alloc w1.drew _).1)).mono ?_; rintro e w3 ⟨s3, r, rfl, hS3, hr, hup⟩)
  all_goals
    have H3 : Hid (Stp y base w s w3 s3 (1 + (M * ub + vb))) := hS3
    have HR : Hid (tyB s3.m r ∧ tyB s3.m a) := ⟨hr, hup _ HA.out⟩
    have hz3 := hS3.cy.size
    clear hS3 hr hup
    go_wp2_with fail
    have hF4 : Fr (fun _ => False) w3 (w3.alloc (.cells #[.pointer (some ⟨a, 0, none⟩), .pointer (some ⟨r, 0, none⟩)] 50)) := (Fr.refl _ w3).alloc _
    have hG := Stp.grow H3.out.cy hF4
    refine (kind2 (k := [102, 117, 110]) (a := a) (b := r) (g := w3.heap.size) hG.cy (MapKept.heap_alloc w3 _).1 hz3 HR.out.2 HR.out.1 (by decide) (by decide)).mono ?_
    rintro e w5 ⟨s5, q, rfl, hS5, hq⟩
    have H5 : Hid (Stp y base w s w5 s5 c) := (((H3.out.trans H0.out hG).trans H0.out hS5)).le (by omega)
    clear hS5 hG hF4
    go_wp2_with fail
    go_ret
    exact ⟨s5, q, rfl, H5.out, hq⟩
end
end Go.Proofs.YtnbhnjokpcdnnaaGreatDoor

namespace Go.Proofs.YtnbhnjokpcdnnaaGreatDoor
open Go.RowKit

section
variable {y base K : Nat} {w w1 w2 : World} {s s1 : TyS} {l : List EN} {bp : Nat → Value} {ns : List (List UInt8)} {f d M N c c1 c2 : Nat}

/-- What a call that answers a type has done since the caller began. -/
def Ty1 (y base : Nat) (w : World) (s s1 : TyS) (c : Nat) (e : Ending) (w' : World) : Prop := ∃ s' q, e = .returned (.pointer (some ⟨q, 0, none⟩)) ∧ Stp y base w s w' s' c ∧ tyB s'.m q ∧ ∀ a, tyB s1.m a → tyB s'.m a

theorem Ty1.of (h0 : Cy y base w s) (h1 : Stp y base w s w1 s1 c1) (hc : c1 + c2 ≤ c) {e : Ending} {w' : World} (h : TyR y base w1 s1 c2 e w') : Ty1 y base w s s1 c e w' := by
  obtain ⟨s', q, rfl, hS, hq⟩ := h
  exact ⟨s', q, rfl, (h1.trans h0 hS).le hc, hq, hS.up⟩

theorem exp_at (IH : ExOk y base K) {t : Code} {u v : Nat} {p : Value} {o0 : Option Addr} (h0 : Cy y base w s) (h1 : Stp y base w s w1 s1 c1) (hE : EnT w1 base l bp s1) (ho : bp 0 = .pointer o0) (hO : EO f d M l ns) (hC : Cst N ns t u v) (hd : d + wt t < K) (hN : Nd w1 (fun b => base ≤ b) t p) (hp : pot w s + (c : Int) ≤ 9223372036854775807) (hc : c1 + (M * u + v) ≤ c) :
    Calls Tryz.prog 24 #[.pointer (some ⟨y, 0, none⟩), p, .pointer o0] w1 (Ty1 y base w s s1 (c1 + (M * u + v))) := by
  have q2 := h1.pot
  rw [← ho]
  exact (IH (c := M * u + v) h1.cy hE hO hC hd hN (Nat.le_refl _) (by omega)).mono fun e w' h => Ty1.of h0 h1 (Nat.le_refl _) h

theorem kind0_at {k : List UInt8} (h0 : Cy y base w s) (h1 : Stp y base w s w1 s1 c1) (ha : arity k = 0) (hk : k.length ≤ 4) : Calls Tryz.prog 44 #[.string (bs k), .slice none 0 0] w1 (Ty1 y base w s s1 (c1 + 1)) :=
  (kind0 h1.cy ha hk).mono fun _ _ h => Ty1.of h0 h1 (Nat.le_refl _) h

theorem kind1_at {k : List UInt8} {a : Nat} (h0 : Cy y base w s) (h1 : Stp y base w s w1 s1 c1) (hta : tyB s1.m a) (ha : arity k = 1) (hk : k.length ≤ 4) : Calls Tryz.prog 44 #[.string (bs k), .slice (some ⟨w1.heap.size, 0, none⟩) 1 1] (w1.alloc (.cells #[.pointer (some ⟨a, 0, none⟩)] 50)) (Ty1 y base w s s1 (c1 + 1)) := by
  have hG := Stp.grow h1.cy ((Fr.refl (fun _ => False) w1).alloc (.cells #[.pointer (some ⟨a, 0, none⟩)] 50))
  exact (kind1 (k := k) (a := a) (g := w1.heap.size) hG.cy (MapKept.heap_alloc w1 _).1 h1.cy.size hta ha hk).mono fun _ _ h => Ty1.of h0 (h1.trans h0 hG) (by omega) h

theorem kind2_at {k : List UInt8} {a b : Nat} (h0 : Cy y base w s) (h1 : Stp y base w s w1 s1 c1) (hta : tyB s1.m a) (htb : tyB s1.m b) (ha : arity k = 2) (hk : k.length ≤ 4) : Calls Tryz.prog 44 #[.string (bs k), .slice (some ⟨w1.heap.size, 0, none⟩) 2 2] (w1.alloc (.cells #[.pointer (some ⟨a, 0, none⟩), .pointer (some ⟨b, 0, none⟩)] 50)) (Ty1 y base w s s1 (c1 + 1)) := by
  have hG := Stp.grow h1.cy ((Fr.refl (fun _ => False) w1).alloc (.cells #[.pointer (some ⟨a, 0, none⟩), .pointer (some ⟨b, 0, none⟩)] 50))
  exact (kind2 (k := k) (a := a) (b := b) (g := w1.heap.size) hG.cy (MapKept.heap_alloc w1 _).1 h1.cy.size hta htb ha hk).mono fun _ _ h => Ty1.of h0 (h1.trans h0 hG) (by omega) h

theorem same_at {x z : Nat} (h0 : Cy y base w s) (h1 : Stp y base w s w1 s1 c1) (hx : tyB s1.m x) (hz : tyB s1.m z) (hp : pot w s + (c1 : Int) ≤ 9223372036854775807) :
    Calls Tryz.prog 50 #[.pointer (some ⟨y, 0, none⟩), .pointer (some ⟨x, 0, none⟩), .pointer (some ⟨z, 0, none⟩)] w1 fun e w' => e = .returned (.tuple #[]) ∧ ∃ s', Stp y base w s w' s' c1 ∧ ∀ a, tyB s1.m a → tyB s'.m a := by
  have q2 := h1.pot
  refine (same_stp h1.cy hx hz (by omega)).mono ?_
  rintro e w' ⟨rfl, s', hS⟩
  exact ⟨rfl, s', (h1.trans h0 hS).le (by omega), hS.up⟩

theorem Stp.refl (h : Cy y base w s) : Stp y base w s w s 0 := Stp.grow h (Fr.refl _ w)

/-- A node's parts. -/
theorem Nd.subl {k : List UInt8} {n : Int} {nm ow : List UInt8} {subs pats : List Code} {b : Nat} (h : Nd w (fun b => base ≤ b) (nd k n nm ow subs pats) (.pointer (some ⟨b, 0, none⟩))) (hs : 0 < subs.length) :
    ∃ g gc, b < base ∧ g < base ∧ w.cell? ⟨b, 4, none⟩ = some (.slice (some ⟨g, 0, none⟩) subs.length gc) ∧ ∀ i (hi : i < subs.length), ∃ v, w.cell? ⟨g, i, none⟩ = some v ∧ Nd w (fun b => base ≤ b) subs[i] v := by
  obtain ⟨vs, vp, cs, cp, hbs, k4, k5, hrow, hrX, hds, hcl, -⟩ := h.rows
  obtain ⟨g, gc, rfl, hgl, -⟩ := row_form hrow hs
  obtain ⟨b', hb', hb2, -⟩ := h.ptr
  cases hb'
  refine ⟨g, gc, by omega, by have := hrX g rfl; omega, k4, fun i hi => ?_⟩
  obtain ⟨v, h1, h2⟩ := hds.get hi
  exact ⟨v, by rw [World.ownsRow.cellAt hrow i (by omega)]; exact h1, h2⟩
end

section
variable {y base K : Nat} {w w1 w2 : World} {s s1 : TyS} {l : List EN} {bp : Nat → Value} {ns : List (List UInt8)} {f d M N c c1 c2 : Nat}

/-- Parts that are all of one type. -/
def CtS (ns : List (List UInt8)) : List Code → Nat → Nat → Prop
  | [], _, _ => True
  | t :: ts, U, V => ∃ N u v U' V', Cst N ns t u v ∧ CtS ns ts U' V' ∧ u + U' ≤ U ∧ v + 1 + V' ≤ V

theorem cost_sum {M u v U' V' U V : Nat} (h1 : u + U' ≤ U) (h2 : v + 1 + V' ≤ V) : M * u + v + 1 + (M * U' + V') ≤ M * U + V := by
  have : M * (u + U') ≤ M * U := Nat.mul_le_mul_left _ h1
  rw [Nat.mul_add] at this
  omega

theorem wts_get {l : List Code} {j : Nat} (hj : j < l.length) : wt l[j] ≤ wts l := by
  induction l generalizing j with
  | nil => simp at hj
  | cons a l ih =>
    rw [wts_cons]
    cases j with
    | zero => simp
    | succ j =>
      have := ih (j := j) (by simpa using hj)
      simp only [List.getElem_cons_succ]
      omega

set_option maxHeartbeats 3200000 in
set_option maxRecDepth 100000 in
theorem all_ref (IH : ExOk y base K) {ts : List Code} {U V g gc : Nat} {k : List UInt8} (h0 : Cy y base w s) (hE : EnT w base l bp s) (hO : EO f d M l ns) (hC : CtS ns ts U V) (hd : d + wts ts < K) (hg : g < base) (hr : ∀ i (hi : i < ts.length), ∃ v, w.cell? ⟨g, i, none⟩ = some v ∧ Nd w (fun b => base ≤ b) ts[i] v) (hl : ts.length ≤ 1000) (hk0 : arity k = 0) (hk4 : k.length ≤ 4) (hc : M * U + V ≤ c) (hp : pot w s + (c : Int) ≤ 9223372036854775807) :
    Calls Tryz.prog 49 #[ptrV y, .slice (some ⟨g, 0, none⟩) ts.length gc, .string (bs k), bp 0] w fun e w' => e = .returned (.tuple #[]) ∧ ∃ s', Stp y base w s w' s' c := by
  obtain ⟨o0, ho⟩ := hE.env.ptr
  rw [ho]
  have H0 : Hid (Cy y base w s) := h0
  have HE : Hid (EnT w base l bp s) := hE
  have HR : Hid (∀ i (hi : i < ts.length), ∃ v, w.cell? ⟨g, i, none⟩ = some v ∧ Nd w (fun b => base ≤ b) ts[i] v) := hr
  have HC : Hid (CtS ns ts U V) := hC
  clear h0 hE hr hC
  simp only [ptrV]
  go_enter Tryz.func49, Tryz.ntmps49
  go_wp2_with fail
  go_loopg [8] ts.length (fun mm iv wr => ∃ (j : Nat) (s1 : TyS) (c1 U' V' : Nat), iv = .int .i64 j ∧ j ≤ ts.length ∧ mm = ts.length - j ∧ CtS ns (ts.drop j) U' V' ∧ c1 + (M * U' + V') ≤ c ∧ Stp y base w s wr s1 c1)
  case atStart => exact ⟨0, s, 0, U, V, rfl, Nat.zero_le _, rfl, HC.out, by omega, Stp.refl H0.out⟩
  case round =>
    obtain ⟨j, s1, c1, U', V', rfl, hj, hm, hC1, hc1, hS1⟩ := hrel
    have HMM : Hid (gk = ts.length - j) := hm
    have HS1 : Hid (Stp y base w s wr s1 c1) := hS1
    clear hm
    by_cases hlt : j < ts.length
    · obtain ⟨pv, hcell, hNs⟩ := HR.out j hlt
      have hcell1 := hS1.cell H0.out hg hcell
      have hgl : g < wr.heap.size := by have := hS1.cy.size; omega
      rw [List.drop_eq_getElem_cons hlt] at hC1
      obtain ⟨N, u, v, U2, V2, hCt, hC2, hu, hv⟩ := hC1
      have hsum := cost_sum (M := M) hu hv
      have hw := wts_get hlt
      have HX : Hid (Calls Tryz.prog 24 #[.pointer (some ⟨y, 0, none⟩), pv, .pointer o0] wr (Ty1 y base w s s1 (c1 + (M * u + v)))) := exp_at IH H0.out hS1 (HE.out.stp H0.out hS1) ho hO hCt (by omega) (hS1.nd H0.out hNs) hp (by omega)
      have HC2 : Hid (CtS ns (ts.drop (j + 1)) U2 V2) := hC2
      clear hS1 hCt hC2 hcell hNs
      go_wp2_with fail
      refine HX.out.mono ?_
      rintro e w2 ⟨s2, q2, rfl, hS2, hq2, -⟩
      have HS2 : Hid (Stp y base w s w2 s2 (c1 + (M * u + v))) := hS2
      clear hS2 HX
      go_wp2_with fail
      refine (kind0_at H0.out HS2.out hk0 hk4).mono ?_
      rintro e w3 ⟨s3, q3, rfl, hS3, hq3, hu3⟩
      have HS3 : Hid (Stp y base w s w3 s3 (c1 + (M * u + v) + 1)) := hS3
      have hq2' := hu3 _ hq2
      clear hS3 hu3
      go_wp2_with fail
      refine (same_at H0.out HS3.out hq2' hq3 (by omega)).mono ?_
      rintro e w4 ⟨rfl, s4, hS4, -⟩
      have HS4 : Hid (Stp y base w s w4 s4 (c1 + (M * u + v) + 1)) := hS4
      clear hS4
      go_wp2_with fail
      go_roundg (ts.length - (j + 1))
      case measure => rw [HMM.out]; omega
      case rel => exact ⟨j + 1, s4, _, U2, V2, by go_num, by omega, rfl, HC2.out, by omega, HS4.out⟩
    · obtain rfl : j = ts.length := by omega
      clear hS1 hC1
      go_wp2_with fail
      (first | go_end0 | ((try simp only [Exit.inBlock, Exit.then]); refine bodyPost_ret (results_none rfl _ _ _) rfl ?_))
      exact ⟨rfl, s1, HS1.out.le (by omega)⟩

theorem all_at (IH : ExOk y base K) {ts : List Code} {U V g gc n : Nat} {k : List UInt8} {o0 : Option Addr} (h0 : Cy y base w s) (h1 : Stp y base w s w1 s1 c1) (hE : EnT w1 base l bp s1) (ho : bp 0 = .pointer o0) (hO : EO f d M l ns) (hC : CtS ns ts U V) (hd : d + wts ts < K) (hg : g < base) (hr : ∀ i (hi : i < ts.length), ∃ v, w.cell? ⟨g, i, none⟩ = some v ∧ Nd w (fun b => base ≤ b) ts[i] v) (hn : ts.length = n) (hl : n ≤ 1000) (hk0 : arity k = 0) (hk4 : k.length ≤ 4) (hp : pot w s + (c : Int) ≤ 9223372036854775807) (hc : c1 + (M * U + V) ≤ c) :
    Calls Tryz.prog 49 #[.pointer (some ⟨y, 0, none⟩), .slice (some ⟨g, 0, none⟩) n gc, .string (bs k), .pointer o0] w1 fun e w' => e = .returned (.tuple #[]) ∧ ∃ s', Stp y base w s w' s' (c1 + (M * U + V)) ∧ ∀ a, tyB s1.m a → tyB s'.m a := by
  have q2 := h1.pot
  subst hn
  rw [← ho]
  refine (all_ref (c := M * U + V) IH h1.cy hE hO hC hd hg (fun i hi => ?_) hl hk0 hk4 (Nat.le_refl _) (by omega)).mono ?_
  · obtain ⟨v, h2, h3⟩ := hr i hi
    exact ⟨v, h1.cell h0 hg h2, h1.nd h0 h3⟩
  · rintro e w' ⟨rfl, s', hS⟩
    exact ⟨rfl, s', h1.trans h0 hS, hS.up⟩

theorem CtS.one {a : Code} {ua va : Nat} (ha : Cst N ns a ua va) : CtS ns [a] ua (va + 1) := ⟨N, ua, va, 0, 0, ha, trivial, by omega, by omega⟩
theorem CtS.two {a b : Code} {ua va ub vb : Nat} (ha : Cst N ns a ua va) (hb : Cst N ns b ub vb) : CtS ns [a, b] (ua + ub) (va + vb + 2) := ⟨N, ua, va, ub, vb + 1, ha, CtS.one hb, by omega, by omega⟩

/-- A node's parts; there is room for as many. -/
theorem Nd.subc {k : List UInt8} {n : Int} {nm ow : List UInt8} {subs pats : List Code} {b : Nat} (h : Nd w (fun b => base ≤ b) (nd k n nm ow subs pats) (.pointer (some ⟨b, 0, none⟩))) (hs : 0 < subs.length) :
    ∃ g gc, b < base ∧ g < base ∧ w.cell? ⟨b, 4, none⟩ = some (.slice (some ⟨g, 0, none⟩) subs.length gc) ∧ subs.length ≤ gc ∧ ∀ i (hi : i < subs.length), ∃ v, w.cell? ⟨g, i, none⟩ = some v ∧ Nd w (fun b => base ≤ b) subs[i] v := by
  obtain ⟨vs, vp, cs, cp, hbs, k4, k5, hrow, hrX, hds, hcl, -⟩ := h.rows
  have hrow' := hrow
  rcases hrow'.2 with ⟨_, h0⟩ | ⟨g, cap, cur, rfl, hg, hh, hle, -⟩
  · omega
  obtain ⟨b', hb', hb2, -⟩ := h.ptr
  cases hb'
  refine ⟨g, cap, by omega, by have := hrX g rfl; omega, k4, hle, fun i hi => ?_⟩
  obtain ⟨v, h1, h2⟩ := hds.get hi
  exact ⟨v, by rw [World.ownsRow.cellAt hrow i (by omega)]; exact h1, h2⟩

/-- Typing on behind a name more, whatever it stands for. -/
theorem exp_bind (IH : ExOk y base K) {e : EN} {ns' : List (List UInt8)} {f' d' M' u v : Nat} {t : Code} {p : Value} {o0 : Option Addr} (h0 : Cy y base w s) (h1 : Stp y base w s w1 s1 c1) (hE : EnT w1 base l bp s1) (ho : bp 0 = .pointer o0) (hO : EO f' d' M' (e :: l) ns') (hC : Cst N ns' t u v) (hd : d' + wt t < K) (hN : Nd w1 (fun b => base ≤ b) t p) (hp : pot w s + (c : Int) ≤ 9223372036854775807) (hc : c1 + (M' * u + v) ≤ c) (w2 : World) (b' : Nat) {ev gv ov : Value} (hF : Fr (fun _ => False) w1 w2) (hb : base ≤ b') (hblk : w2.heap[b']? = some (.cells #[.string (bs e.nm), optV e.ty, ev, gv, ov, .pointer o0] 107 (0, 0))) (h4 : ExAt w2 base e.ex ev) (h5 : GrAt w2 base e.gr gv) (h6 : (e.ex ≠ none ∨ e.gr ≠ []) → e.out ≤ l.length ∧ ov = bp e.out) (h7 : ∀ b, e.ty = some b → tyB s1.m b) :
    Calls Tryz.prog 24 #[.pointer (some ⟨y, 0, none⟩), p, .pointer (some ⟨b', 0, none⟩)] w2 (Ty1 y base w s s1 (c1 + (M' * u + v))) := by
  have hG := Stp.grow h1.cy hF
  have h2 := (hE.stp h1.cy hG).cons (e := e) hb (by rw [ho]; exact hblk) h4 h5 h6 h7
  refine (exp_at (o0 := some ⟨b', 0, none⟩) (c := c) IH h0 (h1.trans h0 hG) h2 rfl hO hC hd (hG.nd h1.cy hN) hp (by omega)).mono ?_
  rintro e' w' ⟨s', q, rfl, hS, hq, hu⟩
  exact ⟨s', q, rfl, hS.le (by omega), hq, hu⟩
end
end Go.Proofs.YtnbhnjokpcdnnaaGreatDoor

namespace Go.Proofs.YtnbhnjokpcdnnaaGreatDoor
open Go.RowKit

section
variable {y base K : Nat} {w : World} {s : TyS} {l : List EN} {bp : Nat → Value} {ns : List (List UInt8)} {f d M N c : Nat} {k nm ow : List UInt8} {z : Int} {p : Value} {pats : List Code}

set_option maxHeartbeats 3200000 in
set_option maxRecDepth 100000 in
theorem exp_num (IH : ExOk y base K) (hk : k = [110, 117, 109]) (h0 : Cy y base w s) (hE : EnT w base l bp s) (hO : EO f d M l ns) (hbad : s.bad = false) (hN : Nd w (fun b => base ≤ b) (nd k z nm ow [] pats) p) (hc : 1 ≤ c) (hp : pot w s + (c : Int) ≤ 9223372036854775807) :
    Calls Tryz.prog 24 #[ptrV y, p, bp 0] w (TyR y base w s c) := by
  obtain ⟨bb, rfl, hbX, hblt⟩ := hN.ptr
  obtain ⟨o0, ho⟩ := hE.env.ptr
  obtain ⟨hyl, hy0, -, -⟩ := h0.ty.cells
  rw [hbad] at hy0
  obtain ⟨c0, c2, -⟩ := hN.cells
  have qq0 : (k == [110, 117, 109]) = true := by subst hk; decide
  clear hk
  rw [ho]
  have HS0 : Hid (Stp y base w s w s 0) := Stp.refl h0
  have H0 : Hid (Cy y base w s) := h0
  have HE0 : Hid (EnT w base l bp s) := hE
  have hbb : bb < base := by omega
  have HN : Hid (Nd w (fun b => base ≤ b) (nd k z nm ow [] pats) (.pointer (some ⟨bb, 0, none⟩))) := hN
  clear h0 hE hN
  simp only [ptrV]
  go_enter Tryz.func24, Tryz.ntmps24
  go_wp2_with fail
  refine (kind0_at (k := [105, 110, 116]) H0.out HS0.out (by decide) (by decide)).mono ?_
  rintro e w1 ⟨s1, q1, rfl, hS1, hq1, hu1⟩
  have HS1 : Hid (Stp y base w s w1 s1 (0 + 1)) := hS1
  have hb1 : bb < w1.heap.size := Nat.lt_of_lt_of_le hblt hS1.fr.size
  have c0_1 := hS1.cell H0.out hbb c0
  have c2_1 := hS1.cell H0.out hbb c2
  have HE1 : Hid (EnT w1 base l bp s1) := HE0.out.stp H0.out hS1
  have t1_1 := hq1
  clear hS1 hu1 hq1
  go_wp2_with fail
  go_ret
  exact ⟨s1, q1, rfl, HS1.out.le (by omega), t1_1⟩

set_option maxHeartbeats 3200000 in
set_option maxRecDepth 100000 in
theorem exp_read (IH : ExOk y base K) (hk : k = [114, 101, 97, 100]) (h0 : Cy y base w s) (hE : EnT w base l bp s) (hO : EO f d M l ns) (hbad : s.bad = false) (hN : Nd w (fun b => base ≤ b) (nd k z nm ow [] pats) p) (hc : 1 ≤ c) (hp : pot w s + (c : Int) ≤ 9223372036854775807) :
    Calls Tryz.prog 24 #[ptrV y, p, bp 0] w (TyR y base w s c) := by
  obtain ⟨bb, rfl, hbX, hblt⟩ := hN.ptr
  obtain ⟨o0, ho⟩ := hE.env.ptr
  obtain ⟨hyl, hy0, -, -⟩ := h0.ty.cells
  rw [hbad] at hy0
  obtain ⟨c0, c2, -⟩ := hN.cells
  have qq0 : (k == [110, 117, 109]) = false := by subst hk; decide
  have qq1 : (k == [114, 101, 97, 100]) = true := by subst hk; decide
  clear hk
  rw [ho]
  have HS0 : Hid (Stp y base w s w s 0) := Stp.refl h0
  have H0 : Hid (Cy y base w s) := h0
  have HE0 : Hid (EnT w base l bp s) := hE
  have hbb : bb < base := by omega
  have HN : Hid (Nd w (fun b => base ≤ b) (nd k z nm ow [] pats) (.pointer (some ⟨bb, 0, none⟩))) := hN
  clear h0 hE hN
  simp only [ptrV]
  go_enter Tryz.func24, Tryz.ntmps24
  go_wp2_with fail
  refine (kind0_at (k := [105, 110, 116]) H0.out HS0.out (by decide) (by decide)).mono ?_
  rintro e w1 ⟨s1, q1, rfl, hS1, hq1, hu1⟩
  have HS1 : Hid (Stp y base w s w1 s1 (0 + 1)) := hS1
  have hb1 : bb < w1.heap.size := Nat.lt_of_lt_of_le hblt hS1.fr.size
  have c0_1 := hS1.cell H0.out hbb c0
  have c2_1 := hS1.cell H0.out hbb c2
  have HE1 : Hid (EnT w1 base l bp s1) := HE0.out.stp H0.out hS1
  have t1_1 := hq1
  clear hS1 hu1 hq1
  go_wp2_with fail
  go_ret
  exact ⟨s1, q1, rfl, HS1.out.le (by omega), t1_1⟩

set_option maxHeartbeats 3200000 in
set_option maxRecDepth 100000 in
theorem exp_bool (IH : ExOk y base K) (hk : k = [98, 111, 111, 108]) (h0 : Cy y base w s) (hE : EnT w base l bp s) (hO : EO f d M l ns) (hbad : s.bad = false) (hN : Nd w (fun b => base ≤ b) (nd k z nm ow [] pats) p) (hc : 1 ≤ c) (hp : pot w s + (c : Int) ≤ 9223372036854775807) :
    Calls Tryz.prog 24 #[ptrV y, p, bp 0] w (TyR y base w s c) := by
  obtain ⟨bb, rfl, hbX, hblt⟩ := hN.ptr
  obtain ⟨o0, ho⟩ := hE.env.ptr
  obtain ⟨hyl, hy0, -, -⟩ := h0.ty.cells
  rw [hbad] at hy0
  obtain ⟨c0, c2, -⟩ := hN.cells
  have qq0 : (k == [110, 117, 109]) = false := by subst hk; decide
  have qq1 : (k == [114, 101, 97, 100]) = false := by subst hk; decide
  have qq2 : (k == [98, 111, 111, 108]) = true := by subst hk; decide
  clear hk
  rw [ho]
  have HS0 : Hid (Stp y base w s w s 0) := Stp.refl h0
  have H0 : Hid (Cy y base w s) := h0
  have HE0 : Hid (EnT w base l bp s) := hE
  have hbb : bb < base := by omega
  have HN : Hid (Nd w (fun b => base ≤ b) (nd k z nm ow [] pats) (.pointer (some ⟨bb, 0, none⟩))) := hN
  clear h0 hE hN
  simp only [ptrV]
  go_enter Tryz.func24, Tryz.ntmps24
  go_wp2_with fail
  refine (kind0_at (k := [98, 111, 111, 108]) H0.out HS0.out (by decide) (by decide)).mono ?_
  rintro e w1 ⟨s1, q1, rfl, hS1, hq1, hu1⟩
  have HS1 : Hid (Stp y base w s w1 s1 (0 + 1)) := hS1
  have hb1 : bb < w1.heap.size := Nat.lt_of_lt_of_le hblt hS1.fr.size
  have c0_1 := hS1.cell H0.out hbb c0
  have c2_1 := hS1.cell H0.out hbb c2
  have HE1 : Hid (EnT w1 base l bp s1) := HE0.out.stp H0.out hS1
  have t1_1 := hq1
  clear hS1 hu1 hq1
  go_wp2_with fail
  go_ret
  exact ⟨s1, q1, rfl, HS1.out.le (by omega), t1_1⟩

set_option maxHeartbeats 3200000 in
set_option maxRecDepth 100000 in
theorem exp_nil (IH : ExOk y base K) (hk : k = [110, 105, 108]) (h0 : Cy y base w s) (hE : EnT w base l bp s) (hO : EO f d M l ns) (hbad : s.bad = false) (hN : Nd w (fun b => base ≤ b) (nd k z nm ow [] pats) p) (hc : 2 ≤ c) (hp : pot w s + (c : Int) ≤ 9223372036854775807) :
    Calls Tryz.prog 24 #[ptrV y, p, bp 0] w (TyR y base w s c) := by
  obtain ⟨bb, rfl, hbX, hblt⟩ := hN.ptr
  obtain ⟨o0, ho⟩ := hE.env.ptr
  obtain ⟨hyl, hy0, -, -⟩ := h0.ty.cells
  rw [hbad] at hy0
  obtain ⟨c0, c2, -⟩ := hN.cells
  have qq0 : (k == [110, 117, 109]) = false := by subst hk; decide
  have qq1 : (k == [114, 101, 97, 100]) = false := by subst hk; decide
  have qq2 : (k == [98, 111, 111, 108]) = false := by subst hk; decide
  have qq3 : (k == [110, 105, 108]) = true := by subst hk; decide
  clear hk
  rw [ho]
  have HS0 : Hid (Stp y base w s w s 0) := Stp.refl h0
  have H0 : Hid (Cy y base w s) := h0
  have HE0 : Hid (EnT w base l bp s) := hE
  have hbb : bb < base := by omega
  have HN : Hid (Nd w (fun b => base ≤ b) (nd k z nm ow [] pats) (.pointer (some ⟨bb, 0, none⟩))) := hN
  clear h0 hE hN
  simp only [ptrV]
  go_enter Tryz.func24, Tryz.ntmps24
  go_wp2_with fail
  refine (kind0_at (k := []) H0.out HS0.out (by decide) (by decide)).mono ?_
  rintro e w1 ⟨s1, q1, rfl, hS1, hq1, hu1⟩
  have HS1 : Hid (Stp y base w s w1 s1 (0 + 1)) := hS1
  have hb1 : bb < w1.heap.size := Nat.lt_of_lt_of_le hblt hS1.fr.size
  have c0_1 := hS1.cell H0.out hbb c0
  have c2_1 := hS1.cell H0.out hbb c2
  have HE1 : Hid (EnT w1 base l bp s1) := HE0.out.stp H0.out hS1
  have t1_1 := hq1
  clear hS1 hu1 hq1
  go_wp2_with fail
  refine (kind1_at (k := [108, 105, 115, 116]) H0.out HS1.out t1_1 (by decide) (by decide)).mono ?_
  rintro e w2 ⟨s2, q2, rfl, hS2, hq2, hu2⟩
  have HS2 : Hid (Stp y base w s w2 s2 (0 + 1 + 1)) := hS2
  have hb2 : bb < w2.heap.size := Nat.lt_of_lt_of_le hblt hS2.fr.size
  have c0_2 := hS2.cell H0.out hbb c0
  have c2_2 := hS2.cell H0.out hbb c2
  have HE2 : Hid (EnT w2 base l bp s2) := HE0.out.stp H0.out hS2
  have t1_2 := hu2 _ t1_1
  have t2_2 := hq2
  clear hS2 hu2 hq2
  go_wp2_with fail
  go_ret
  exact ⟨s2, q2, rfl, HS2.out.le (by omega), t2_2⟩
end
end Go.Proofs.YtnbhnjokpcdnnaaGreatDoor

namespace Go.Proofs.YtnbhnjokpcdnnaaGreatDoor
open Go.RowKit

section
variable {y base K : Nat} {w : World} {s : TyS} {l : List EN} {bp : Nat → Value} {ns : List (List UInt8)} {f d M N c : Nat} {k nm ow : List UInt8} {z : Int} {p : Value} {pats : List Code}

set_option maxHeartbeats 3200000 in
set_option maxRecDepth 100000 in
theorem exp_pair (IH : ExOk y base K) (hk : k = [112, 97, 105, 114]) (h0 : Cy y base w s) (hE : EnT w base l bp s) (hO : EO f d M l ns) (hbad : s.bad = false) {a : Code} {ua va : Nat} (hCa : Cst N ns a ua va) (hda : d + wt a < K) {b : Code} {ub vb : Nat} (hCb : Cst N ns b ub vb) (hdb : d + wt b < K) (hN : Nd w (fun b => base ≤ b) (nd k z nm ow [a, b] pats) p) (hc : M * ua + va + (M * ub + vb) + 1 ≤ c) (hp : pot w s + (c : Int) ≤ 9223372036854775807) :
    Calls Tryz.prog 24 #[ptrV y, p, bp 0] w (TyR y base w s c) := by
  obtain ⟨bb, rfl, hbX, hblt⟩ := hN.ptr
  obtain ⟨o0, ho⟩ := hE.env.ptr
  obtain ⟨hyl, hy0, -, -⟩ := h0.ty.cells
  rw [hbad] at hy0
  obtain ⟨c0, c2, -⟩ := hN.cells
  have qq0 : (k == [110, 117, 109]) = false := by subst hk; decide
  have qq1 : (k == [114, 101, 97, 100]) = false := by subst hk; decide
  have qq2 : (k == [98, 111, 111, 108]) = false := by subst hk; decide
  have qq3 : (k == [110, 105, 108]) = false := by subst hk; decide
  have qq4 : (k == [118, 97, 114]) = false := by subst hk; decide
  have qq5 : (k == [102, 110]) = false := by subst hk; decide
  have qq6 : (k == [108, 101, 116]) = false := by subst hk; decide
  have qq7 : (k == [114, 101, 99]) = false := by subst hk; decide
  have qq8 : (k == [105, 102]) = false := by subst hk; decide
  have qq9 : (k == [112, 97, 105, 114]) = true := by subst hk; decide
  clear hk
  rw [ho]
  have HS0 : Hid (Stp y base w s w s 0) := Stp.refl h0
  have H0 : Hid (Cy y base w s) := h0
  have HE0 : Hid (EnT w base l bp s) := hE
  obtain ⟨g, gc, hbb, hgb, k4, hgc, hsub⟩ := hN.subc (by simp)
  have hgl : g < w.heap.size := by have := h0.size; omega
  obtain ⟨p0, d0, n0⟩ := hsub 0 (by simp)
  have HN0 : Hid (Nd w (fun b => base ≤ b) a p0) := n0
  clear n0
  obtain ⟨p1, d1, n1⟩ := hsub 1 (by simp)
  have HN1 : Hid (Nd w (fun b => base ≤ b) b p1) := n1
  clear n1
  simp only [List.length_cons, List.length_nil, Nat.zero_add, Nat.reduceAdd] at k4
  simp only [List.length_cons, List.length_nil, Nat.zero_add, Nat.reduceAdd] at hgc
  have HSUB : Hid _ := hsub
  clear hsub
  have HN : Hid (Nd w (fun b => base ≤ b) (nd k z nm ow [a, b] pats) (.pointer (some ⟨bb, 0, none⟩))) := hN
  clear h0 hE hN
  simp only [ptrV]
  go_enter Tryz.func24, Tryz.ntmps24
  go_wp2_with fail
  refine (exp_at IH H0.out HS0.out HE0.out ho hO hCa hda (HS0.out.nd H0.out HN0.out) hp (by omega)).mono ?_
  rintro e w1 ⟨s1, q1, rfl, hS1, hq1, hu1⟩
  have HS1 : Hid (Stp y base w s w1 s1 (0 + (M * ua + va))) := hS1
  have hb1 : bb < w1.heap.size := Nat.lt_of_lt_of_le hblt hS1.fr.size
  have c0_1 := hS1.cell H0.out hbb c0
  have c2_1 := hS1.cell H0.out hbb c2
  have hgl1 : g < w1.heap.size := Nat.lt_of_lt_of_le hgl hS1.fr.size
  have k4_1 := hS1.cell H0.out hbb k4
  have d0_1 := hS1.cell H0.out hgb d0
  have d1_1 := hS1.cell H0.out hgb d1
  have HE1 : Hid (EnT w1 base l bp s1) := HE0.out.stp H0.out hS1
  have t1_1 := hq1
  clear hS1 hu1 hq1
  go_wp2_with fail
  refine (exp_at IH H0.out HS1.out HE1.out ho hO hCb hdb (HS1.out.nd H0.out HN1.out) hp (by omega)).mono ?_
  rintro e w2 ⟨s2, q2, rfl, hS2, hq2, hu2⟩
  have HS2 : Hid (Stp y base w s w2 s2 (0 + (M * ua + va) + (M * ub + vb))) := hS2
  have hb2 : bb < w2.heap.size := Nat.lt_of_lt_of_le hblt hS2.fr.size
  have c0_2 := hS2.cell H0.out hbb c0
  have c2_2 := hS2.cell H0.out hbb c2
  have hgl2 : g < w2.heap.size := Nat.lt_of_lt_of_le hgl hS2.fr.size
  have k4_2 := hS2.cell H0.out hbb k4
  have d0_2 := hS2.cell H0.out hgb d0
  have d1_2 := hS2.cell H0.out hgb d1
  have HE2 : Hid (EnT w2 base l bp s2) := HE0.out.stp H0.out hS2
  have t1_2 := hu2 _ t1_1
  have t2_2 := hq2
  clear hS2 hu2 hq2
  go_wp2_with fail
  refine (kind2_at (k := [112, 97, 105, 114]) H0.out HS2.out t1_2 t2_2 (by decide) (by decide)).mono ?_
  rintro e w3 ⟨s3, q3, rfl, hS3, hq3, hu3⟩
  have HS3 : Hid (Stp y base w s w3 s3 (0 + (M * ua + va) + (M * ub + vb) + 1)) := hS3
  have hb3 : bb < w3.heap.size := Nat.lt_of_lt_of_le hblt hS3.fr.size
  have c0_3 := hS3.cell H0.out hbb c0
  have c2_3 := hS3.cell H0.out hbb c2
  have hgl3 : g < w3.heap.size := Nat.lt_of_lt_of_le hgl hS3.fr.size
  have k4_3 := hS3.cell H0.out hbb k4
  have d0_3 := hS3.cell H0.out hgb d0
  have d1_3 := hS3.cell H0.out hgb d1
  have HE3 : Hid (EnT w3 base l bp s3) := HE0.out.stp H0.out hS3
  have t1_3 := hu3 _ t1_2
  have t2_3 := hu3 _ t2_2
  have t3_3 := hq3
  clear hS3 hu3 hq3
  go_wp2_with fail
  go_ret
  exact ⟨s3, q3, rfl, HS3.out.le (by omega), t3_3⟩
end
end Go.Proofs.YtnbhnjokpcdnnaaGreatDoor

namespace Go.Proofs.YtnbhnjokpcdnnaaGreatDoor
open Go.RowKit

section
variable {y base K : Nat} {w : World} {s : TyS} {l : List EN} {bp : Nat → Value} {ns : List (List UInt8)} {f d M N c : Nat} {k nm ow : List UInt8} {z : Int} {p : Value} {pats : List Code}

set_option maxHeartbeats 3200000 in
set_option maxRecDepth 100000 in
theorem exp_cons (IH : ExOk y base K) (hk : k = [99, 111, 110, 115]) (h0 : Cy y base w s) (hE : EnT w base l bp s) (hO : EO f d M l ns) (hbad : s.bad = false) {a : Code} {ua va : Nat} (hCa : Cst N ns a ua va) (hda : d + wt a < K) {b : Code} {ub vb : Nat} (hCb : Cst N ns b ub vb) (hdb : d + wt b < K) (hN : Nd w (fun b => base ≤ b) (nd k z nm ow [a, b] pats) p) (hc : M * ua + va + (M * ub + vb) + 1 ≤ c) (hp : pot w s + (c : Int) ≤ 9223372036854775807) :
    Calls Tryz.prog 24 #[ptrV y, p, bp 0] w (TyR y base w s c) := by
  obtain ⟨bb, rfl, hbX, hblt⟩ := hN.ptr
  obtain ⟨o0, ho⟩ := hE.env.ptr
  obtain ⟨hyl, hy0, -, -⟩ := h0.ty.cells
  rw [hbad] at hy0
  obtain ⟨c0, c2, -⟩ := hN.cells
  have qq0 : (k == [110, 117, 109]) = false := by subst hk; decide
  have qq1 : (k == [114, 101, 97, 100]) = false := by subst hk; decide
  have qq2 : (k == [98, 111, 111, 108]) = false := by subst hk; decide
  have qq3 : (k == [110, 105, 108]) = false := by subst hk; decide
  have qq4 : (k == [118, 97, 114]) = false := by subst hk; decide
  have qq5 : (k == [102, 110]) = false := by subst hk; decide
  have qq6 : (k == [108, 101, 116]) = false := by subst hk; decide
  have qq7 : (k == [114, 101, 99]) = false := by subst hk; decide
  have qq8 : (k == [105, 102]) = false := by subst hk; decide
  have qq9 : (k == [112, 97, 105, 114]) = false := by subst hk; decide
  have qq10 : (k == [99, 111, 110, 115]) = true := by subst hk; decide
  clear hk
  rw [ho]
  have HS0 : Hid (Stp y base w s w s 0) := Stp.refl h0
  have H0 : Hid (Cy y base w s) := h0
  have HE0 : Hid (EnT w base l bp s) := hE
  obtain ⟨g, gc, hbb, hgb, k4, hgc, hsub⟩ := hN.subc (by simp)
  have hgl : g < w.heap.size := by have := h0.size; omega
  obtain ⟨p0, d0, n0⟩ := hsub 0 (by simp)
  have HN0 : Hid (Nd w (fun b => base ≤ b) a p0) := n0
  clear n0
  obtain ⟨p1, d1, n1⟩ := hsub 1 (by simp)
  have HN1 : Hid (Nd w (fun b => base ≤ b) b p1) := n1
  clear n1
  simp only [List.length_cons, List.length_nil, Nat.zero_add, Nat.reduceAdd] at k4
  simp only [List.length_cons, List.length_nil, Nat.zero_add, Nat.reduceAdd] at hgc
  have HSUB : Hid _ := hsub
  clear hsub
  have HN : Hid (Nd w (fun b => base ≤ b) (nd k z nm ow [a, b] pats) (.pointer (some ⟨bb, 0, none⟩))) := hN
  clear h0 hE hN
  simp only [ptrV]
  go_enter Tryz.func24, Tryz.ntmps24
  go_wp2_with fail
  refine (exp_at IH H0.out HS0.out HE0.out ho hO hCa hda (HS0.out.nd H0.out HN0.out) hp (by omega)).mono ?_
  rintro e w1 ⟨s1, q1, rfl, hS1, hq1, hu1⟩
  have HS1 : Hid (Stp y base w s w1 s1 (0 + (M * ua + va))) := hS1
  have hb1 : bb < w1.heap.size := Nat.lt_of_lt_of_le hblt hS1.fr.size
  have c0_1 := hS1.cell H0.out hbb c0
  have c2_1 := hS1.cell H0.out hbb c2
  have hgl1 : g < w1.heap.size := Nat.lt_of_lt_of_le hgl hS1.fr.size
  have k4_1 := hS1.cell H0.out hbb k4
  have d0_1 := hS1.cell H0.out hgb d0
  have d1_1 := hS1.cell H0.out hgb d1
  have HE1 : Hid (EnT w1 base l bp s1) := HE0.out.stp H0.out hS1
  have t1_1 := hq1
  clear hS1 hu1 hq1
  go_wp2_with fail
  refine (kind1_at (k := [108, 105, 115, 116]) H0.out HS1.out t1_1 (by decide) (by decide)).mono ?_
  rintro e w2 ⟨s2, q2, rfl, hS2, hq2, hu2⟩
  have HS2 : Hid (Stp y base w s w2 s2 (0 + (M * ua + va) + 1)) := hS2
  have hb2 : bb < w2.heap.size := Nat.lt_of_lt_of_le hblt hS2.fr.size
  have c0_2 := hS2.cell H0.out hbb c0
  have c2_2 := hS2.cell H0.out hbb c2
  have hgl2 : g < w2.heap.size := Nat.lt_of_lt_of_le hgl hS2.fr.size
  have k4_2 := hS2.cell H0.out hbb k4
  have d0_2 := hS2.cell H0.out hgb d0
  have d1_2 := hS2.cell H0.out hgb d1
  have HE2 : Hid (EnT w2 base l bp s2) := HE0.out.stp H0.out hS2
  have t1_2 := hu2 _ t1_1
  have t2_2 := hq2
  clear hS2 hu2 hq2
  go_wp2_with fail
  refine (exp_at IH H0.out HS2.out HE2.out ho hO hCb hdb (HS2.out.nd H0.out HN1.out) hp (by omega)).mono ?_
  rintro e w3 ⟨s3, q3, rfl, hS3, hq3, hu3⟩
  have HS3 : Hid (Stp y base w s w3 s3 (0 + (M * ua + va) + 1 + (M * ub + vb))) := hS3
  have hb3 : bb < w3.heap.size := Nat.lt_of_lt_of_le hblt hS3.fr.size
  have c0_3 := hS3.cell H0.out hbb c0
  have c2_3 := hS3.cell H0.out hbb c2
  have hgl3 : g < w3.heap.size := Nat.lt_of_lt_of_le hgl hS3.fr.size
  have k4_3 := hS3.cell H0.out hbb k4
  have d0_3 := hS3.cell H0.out hgb d0
  have d1_3 := hS3.cell H0.out hgb d1
  have HE3 : Hid (EnT w3 base l bp s3) := HE0.out.stp H0.out hS3
  have t1_3 := hu3 _ t1_2
  have t2_3 := hu3 _ t2_2
  have t3_3 := hq3
  clear hS3 hu3 hq3
  go_wp2_with fail
  refine (same_at H0.out HS3.out t3_3 t2_3 (by omega)).mono ?_
  rintro e w4 ⟨rfl, s4, hS4, hu4⟩
  have HS4 : Hid (Stp y base w s w4 s4 (0 + (M * ua + va) + 1 + (M * ub + vb))) := hS4
  have hb4 : bb < w4.heap.size := Nat.lt_of_lt_of_le hblt hS4.fr.size
  have c0_4 := hS4.cell H0.out hbb c0
  have c2_4 := hS4.cell H0.out hbb c2
  have hgl4 : g < w4.heap.size := Nat.lt_of_lt_of_le hgl hS4.fr.size
  have k4_4 := hS4.cell H0.out hbb k4
  have d0_4 := hS4.cell H0.out hgb d0
  have d1_4 := hS4.cell H0.out hgb d1
  have HE4 : Hid (EnT w4 base l bp s4) := HE0.out.stp H0.out hS4
  have t1_4 := hu4 _ t1_3
  have t2_4 := hu4 _ t2_3
  have t3_4 := hu4 _ t3_3
  clear hS4 hu4
  go_wp2_with fail
  go_ret
  exact ⟨s4, q2, rfl, HS4.out.le (by omega), t2_4⟩
end
end Go.Proofs.YtnbhnjokpcdnnaaGreatDoor

namespace Go.Proofs.YtnbhnjokpcdnnaaGreatDoor
open Go.RowKit

section
variable {y base K : Nat} {w : World} {s : TyS} {l : List EN} {bp : Nat → Value} {ns : List (List UInt8)} {f d M N c : Nat} {k nm ow : List UInt8} {z : Int} {p : Value} {pats : List Code}

set_option maxHeartbeats 3200000 in
set_option maxRecDepth 100000 in
theorem exp_call (IH : ExOk y base K) (hk : k = [99, 97, 108, 108]) (h0 : Cy y base w s) (hE : EnT w base l bp s) (hO : EO f d M l ns) (hbad : s.bad = false) {a : Code} {ua va : Nat} (hCa : Cst N ns a ua va) (hda : d + wt a < K) {b : Code} {ub vb : Nat} (hCb : Cst N ns b ub vb) (hdb : d + wt b < K) (hN : Nd w (fun b => base ≤ b) (nd k z nm ow [a, b] pats) p) (hc : M * ua + va + (M * ub + vb) + 2 ≤ c) (hp : pot w s + (c : Int) ≤ 9223372036854775807) :
    Calls Tryz.prog 24 #[ptrV y, p, bp 0] w (TyR y base w s c) := by
  obtain ⟨bb, rfl, hbX, hblt⟩ := hN.ptr
  obtain ⟨o0, ho⟩ := hE.env.ptr
  obtain ⟨hyl, hy0, -, -⟩ := h0.ty.cells
  rw [hbad] at hy0
  obtain ⟨c0, c2, -⟩ := hN.cells
  have qq0 : (k == [110, 117, 109]) = false := by subst hk; decide
  have qq1 : (k == [114, 101, 97, 100]) = false := by subst hk; decide
  have qq2 : (k == [98, 111, 111, 108]) = false := by subst hk; decide
  have qq3 : (k == [110, 105, 108]) = false := by subst hk; decide
  have qq4 : (k == [118, 97, 114]) = false := by subst hk; decide
  have qq5 : (k == [102, 110]) = false := by subst hk; decide
  have qq6 : (k == [108, 101, 116]) = false := by subst hk; decide
  have qq7 : (k == [114, 101, 99]) = false := by subst hk; decide
  have qq8 : (k == [105, 102]) = false := by subst hk; decide
  have qq9 : (k == [112, 97, 105, 114]) = false := by subst hk; decide
  have qq10 : (k == [99, 111, 110, 115]) = false := by subst hk; decide
  have qq11 : (k == [99, 97, 108, 108]) = true := by subst hk; decide
  clear hk
  rw [ho]
  have HS0 : Hid (Stp y base w s w s 0) := Stp.refl h0
  have H0 : Hid (Cy y base w s) := h0
  have HE0 : Hid (EnT w base l bp s) := hE
  obtain ⟨g, gc, hbb, hgb, k4, hgc, hsub⟩ := hN.subc (by simp)
  have hgl : g < w.heap.size := by have := h0.size; omega
  obtain ⟨p0, d0, n0⟩ := hsub 0 (by simp)
  have HN0 : Hid (Nd w (fun b => base ≤ b) a p0) := n0
  clear n0
  obtain ⟨p1, d1, n1⟩ := hsub 1 (by simp)
  have HN1 : Hid (Nd w (fun b => base ≤ b) b p1) := n1
  clear n1
  simp only [List.length_cons, List.length_nil, Nat.zero_add, Nat.reduceAdd] at k4
  simp only [List.length_cons, List.length_nil, Nat.zero_add, Nat.reduceAdd] at hgc
  have HSUB : Hid _ := hsub
  clear hsub
  have HN : Hid (Nd w (fun b => base ≤ b) (nd k z nm ow [a, b] pats) (.pointer (some ⟨bb, 0, none⟩))) := hN
  clear h0 hE hN
  simp only [ptrV]
  go_enter Tryz.func24, Tryz.ntmps24
  go_wp2_with fail
  refine (exp_at IH H0.out HS0.out HE0.out ho hO hCa hda (HS0.out.nd H0.out HN0.out) hp (by omega)).mono ?_
  rintro e w1 ⟨s1, q1, rfl, hS1, hq1, hu1⟩
  have HS1 : Hid (Stp y base w s w1 s1 (0 + (M * ua + va))) := hS1
  have hb1 : bb < w1.heap.size := Nat.lt_of_lt_of_le hblt hS1.fr.size
  have c0_1 := hS1.cell H0.out hbb c0
  have c2_1 := hS1.cell H0.out hbb c2
  have hgl1 : g < w1.heap.size := Nat.lt_of_lt_of_le hgl hS1.fr.size
  have k4_1 := hS1.cell H0.out hbb k4
  have d0_1 := hS1.cell H0.out hgb d0
  have d1_1 := hS1.cell H0.out hgb d1
  have HE1 : Hid (EnT w1 base l bp s1) := HE0.out.stp H0.out hS1
  have t1_1 := hq1
  clear hS1 hu1 hq1
  go_wp2_with fail
  refine (exp_at IH H0.out HS1.out HE1.out ho hO hCb hdb (HS1.out.nd H0.out HN1.out) hp (by omega)).mono ?_
  rintro e w2 ⟨s2, q2, rfl, hS2, hq2, hu2⟩
  have HS2 : Hid (Stp y base w s w2 s2 (0 + (M * ua + va) + (M * ub + vb))) := hS2
  have hb2 : bb < w2.heap.size := Nat.lt_of_lt_of_le hblt hS2.fr.size
  have c0_2 := hS2.cell H0.out hbb c0
  have c2_2 := hS2.cell H0.out hbb c2
  have hgl2 : g < w2.heap.size := Nat.lt_of_lt_of_le hgl hS2.fr.size
  have k4_2 := hS2.cell H0.out hbb k4
  have d0_2 := hS2.cell H0.out hgb d0
  have d1_2 := hS2.cell H0.out hgb d1
  have HE2 : Hid (EnT w2 base l bp s2) := HE0.out.stp H0.out hS2
  have t1_2 := hu2 _ t1_1
  have t2_2 := hq2
  clear hS2 hu2 hq2
  go_wp2_with fail
  refine (kind0_at (k := []) H0.out HS2.out (by decide) (by decide)).mono ?_
  rintro e w3 ⟨s3, q3, rfl, hS3, hq3, hu3⟩
  have HS3 : Hid (Stp y base w s w3 s3 (0 + (M * ua + va) + (M * ub + vb) + 1)) := hS3
  have hb3 : bb < w3.heap.size := Nat.lt_of_lt_of_le hblt hS3.fr.size
  have c0_3 := hS3.cell H0.out hbb c0
  have c2_3 := hS3.cell H0.out hbb c2
  have hgl3 : g < w3.heap.size := Nat.lt_of_lt_of_le hgl hS3.fr.size
  have k4_3 := hS3.cell H0.out hbb k4
  have d0_3 := hS3.cell H0.out hgb d0
  have d1_3 := hS3.cell H0.out hgb d1
  have HE3 : Hid (EnT w3 base l bp s3) := HE0.out.stp H0.out hS3
  have t1_3 := hu3 _ t1_2
  have t2_3 := hu3 _ t2_2
  have t3_3 := hq3
  clear hS3 hu3 hq3
  go_wp2_with fail
  refine (kind2_at (k := [102, 117, 110]) H0.out HS3.out t2_3 t3_3 (by decide) (by decide)).mono ?_
  rintro e w4 ⟨s4, q4, rfl, hS4, hq4, hu4⟩
  have HS4 : Hid (Stp y base w s w4 s4 (0 + (M * ua + va) + (M * ub + vb) + 1 + 1)) := hS4
  have hb4 : bb < w4.heap.size := Nat.lt_of_lt_of_le hblt hS4.fr.size
  have c0_4 := hS4.cell H0.out hbb c0
  have c2_4 := hS4.cell H0.out hbb c2
  have hgl4 : g < w4.heap.size := Nat.lt_of_lt_of_le hgl hS4.fr.size
  have k4_4 := hS4.cell H0.out hbb k4
  have d0_4 := hS4.cell H0.out hgb d0
  have d1_4 := hS4.cell H0.out hgb d1
  have HE4 : Hid (EnT w4 base l bp s4) := HE0.out.stp H0.out hS4
  have t1_4 := hu4 _ t1_3
  have t2_4 := hu4 _ t2_3
  have t3_4 := hu4 _ t3_3
  have t4_4 := hq4
  clear hS4 hu4 hq4
  go_wp2_with fail
  refine (same_at H0.out HS4.out t1_4 t4_4 (by omega)).mono ?_
  rintro e w5 ⟨rfl, s5, hS5, hu5⟩
  have HS5 : Hid (Stp y base w s w5 s5 (0 + (M * ua + va) + (M * ub + vb) + 1 + 1)) := hS5
  have hb5 : bb < w5.heap.size := Nat.lt_of_lt_of_le hblt hS5.fr.size
  have c0_5 := hS5.cell H0.out hbb c0
  have c2_5 := hS5.cell H0.out hbb c2
  have hgl5 : g < w5.heap.size := Nat.lt_of_lt_of_le hgl hS5.fr.size
  have k4_5 := hS5.cell H0.out hbb k4
  have d0_5 := hS5.cell H0.out hgb d0
  have d1_5 := hS5.cell H0.out hgb d1
  have HE5 : Hid (EnT w5 base l bp s5) := HE0.out.stp H0.out hS5
  have t1_5 := hu5 _ t1_4
  have t2_5 := hu5 _ t2_4
  have t3_5 := hu5 _ t3_4
  have t4_5 := hu5 _ t4_4
  clear hS5 hu5
  go_wp2_with fail
  go_ret
  exact ⟨s5, q3, rfl, HS5.out.le (by omega), t3_5⟩
end
end Go.Proofs.YtnbhnjokpcdnnaaGreatDoor

namespace Go.Proofs.YtnbhnjokpcdnnaaGreatDoor
open Go.RowKit

section
variable {y base K : Nat} {w : World} {s : TyS} {l : List EN} {bp : Nat → Value} {ns : List (List UInt8)} {f d M N c : Nat} {k nm ow : List UInt8} {z : Int} {p : Value} {pats : List Code}

set_option maxHeartbeats 3200000 in
set_option maxRecDepth 100000 in
theorem exp_op43 (IH : ExOk y base K) (hk : k = [43]) (h0 : Cy y base w s) (hE : EnT w base l bp s) (hO : EO f d M l ns) (hbad : s.bad = false) {a : Code} {ua va : Nat} (hCa : Cst N ns a ua va) (hda : d + wt a < K) {b : Code} {ub vb : Nat} (hCb : Cst N ns b ub vb) (hdb : d + wt b < K) (hds : d + (wt a + wt b) < K) (hN : Nd w (fun b => base ≤ b) (nd k z nm ow [a, b] pats) p) (hc : M * ua + va + (M * ub + vb) + 3 ≤ c) (hp : pot w s + (c : Int) ≤ 9223372036854775807) :
    Calls Tryz.prog 24 #[ptrV y, p, bp 0] w (TyR y base w s c) := by
  obtain ⟨bb, rfl, hbX, hblt⟩ := hN.ptr
  obtain ⟨o0, ho⟩ := hE.env.ptr
  obtain ⟨hyl, hy0, -, -⟩ := h0.ty.cells
  rw [hbad] at hy0
  obtain ⟨c0, c2, -⟩ := hN.cells
  have qq0 : (k == [110, 117, 109]) = false := by subst hk; decide
  have qq1 : (k == [114, 101, 97, 100]) = false := by subst hk; decide
  have qq2 : (k == [98, 111, 111, 108]) = false := by subst hk; decide
  have qq3 : (k == [110, 105, 108]) = false := by subst hk; decide
  have qq4 : (k == [118, 97, 114]) = false := by subst hk; decide
  have qq5 : (k == [102, 110]) = false := by subst hk; decide
  have qq6 : (k == [108, 101, 116]) = false := by subst hk; decide
  have qq7 : (k == [114, 101, 99]) = false := by subst hk; decide
  have qq8 : (k == [105, 102]) = false := by subst hk; decide
  have qq9 : (k == [112, 97, 105, 114]) = false := by subst hk; decide
  have qq10 : (k == [99, 111, 110, 115]) = false := by subst hk; decide
  have qq11 : (k == [99, 97, 108, 108]) = false := by subst hk; decide
  have qq12 : (k == [43]) = true := by subst hk; decide
  clear hk
  rw [ho]
  have HS0 : Hid (Stp y base w s w s 0) := Stp.refl h0
  have H0 : Hid (Cy y base w s) := h0
  have HE0 : Hid (EnT w base l bp s) := hE
  obtain ⟨g, gc, hbb, hgb, k4, hgc, hsub⟩ := hN.subc (by simp)
  have hgl : g < w.heap.size := by have := h0.size; omega
  obtain ⟨p0, d0, n0⟩ := hsub 0 (by simp)
  have HN0 : Hid (Nd w (fun b => base ≤ b) a p0) := n0
  clear n0
  obtain ⟨p1, d1, n1⟩ := hsub 1 (by simp)
  have HN1 : Hid (Nd w (fun b => base ≤ b) b p1) := n1
  clear n1
  simp only [List.length_cons, List.length_nil, Nat.zero_add, Nat.reduceAdd] at k4
  simp only [List.length_cons, List.length_nil, Nat.zero_add, Nat.reduceAdd] at hgc
  have HSUB : Hid _ := hsub
  clear hsub
  have HN : Hid (Nd w (fun b => base ≤ b) (nd k z nm ow [a, b] pats) (.pointer (some ⟨bb, 0, none⟩))) := hN
  clear h0 hE hN
  simp only [ptrV]
  go_enter Tryz.func24, Tryz.ntmps24
  go_wp2_with fail
  have hM : M * (ua + ub) = M * ua + M * ub := by rw [Nat.mul_add]
  refine (all_at (k := [105, 110, 116]) IH H0.out HS0.out HE0.out ho hO (CtS.two hCa hCb) (by simp only [wts_cons, wts_nil] at *; omega) hgb HSUB.out rfl (by simp) (by decide) (by decide) hp (by omega)).mono ?_
  rintro e w1 ⟨rfl, s1, hS1, hu1⟩
  have HS1 : Hid (Stp y base w s w1 s1 (0 + (M * (ua + ub) + (va + vb + 2)))) := hS1
  have hb1 : bb < w1.heap.size := Nat.lt_of_lt_of_le hblt hS1.fr.size
  have c0_1 := hS1.cell H0.out hbb c0
  have c2_1 := hS1.cell H0.out hbb c2
  have hgl1 : g < w1.heap.size := Nat.lt_of_lt_of_le hgl hS1.fr.size
  have k4_1 := hS1.cell H0.out hbb k4
  have d0_1 := hS1.cell H0.out hgb d0
  have d1_1 := hS1.cell H0.out hgb d1
  have HE1 : Hid (EnT w1 base l bp s1) := HE0.out.stp H0.out hS1
  clear hS1 hu1
  go_wp2_with fail
  refine (kind0_at (k := [105, 110, 116]) H0.out HS1.out (by decide) (by decide)).mono ?_
  rintro e w2 ⟨s2, q2, rfl, hS2, hq2, hu2⟩
  have HS2 : Hid (Stp y base w s w2 s2 (0 + (M * (ua + ub) + (va + vb + 2)) + 1)) := hS2
  have hb2 : bb < w2.heap.size := Nat.lt_of_lt_of_le hblt hS2.fr.size
  have c0_2 := hS2.cell H0.out hbb c0
  have c2_2 := hS2.cell H0.out hbb c2
  have hgl2 : g < w2.heap.size := Nat.lt_of_lt_of_le hgl hS2.fr.size
  have k4_2 := hS2.cell H0.out hbb k4
  have d0_2 := hS2.cell H0.out hgb d0
  have d1_2 := hS2.cell H0.out hgb d1
  have HE2 : Hid (EnT w2 base l bp s2) := HE0.out.stp H0.out hS2
  have t2_2 := hq2
  clear hS2 hu2 hq2
  go_wp2_with fail
  go_ret
  exact ⟨s2, q2, rfl, HS2.out.le (by omega), t2_2⟩

set_option maxHeartbeats 3200000 in
set_option maxRecDepth 100000 in
theorem exp_op45 (IH : ExOk y base K) (hk : k = [45]) (h0 : Cy y base w s) (hE : EnT w base l bp s) (hO : EO f d M l ns) (hbad : s.bad = false) {a : Code} {ua va : Nat} (hCa : Cst N ns a ua va) (hda : d + wt a < K) {b : Code} {ub vb : Nat} (hCb : Cst N ns b ub vb) (hdb : d + wt b < K) (hds : d + (wt a + wt b) < K) (hN : Nd w (fun b => base ≤ b) (nd k z nm ow [a, b] pats) p) (hc : M * ua + va + (M * ub + vb) + 3 ≤ c) (hp : pot w s + (c : Int) ≤ 9223372036854775807) :
    Calls Tryz.prog 24 #[ptrV y, p, bp 0] w (TyR y base w s c) := by
  obtain ⟨bb, rfl, hbX, hblt⟩ := hN.ptr
  obtain ⟨o0, ho⟩ := hE.env.ptr
  obtain ⟨hyl, hy0, -, -⟩ := h0.ty.cells
  rw [hbad] at hy0
  obtain ⟨c0, c2, -⟩ := hN.cells
  have qq0 : (k == [110, 117, 109]) = false := by subst hk; decide
  have qq1 : (k == [114, 101, 97, 100]) = false := by subst hk; decide
  have qq2 : (k == [98, 111, 111, 108]) = false := by subst hk; decide
  have qq3 : (k == [110, 105, 108]) = false := by subst hk; decide
  have qq4 : (k == [118, 97, 114]) = false := by subst hk; decide
  have qq5 : (k == [102, 110]) = false := by subst hk; decide
  have qq6 : (k == [108, 101, 116]) = false := by subst hk; decide
  have qq7 : (k == [114, 101, 99]) = false := by subst hk; decide
  have qq8 : (k == [105, 102]) = false := by subst hk; decide
  have qq9 : (k == [112, 97, 105, 114]) = false := by subst hk; decide
  have qq10 : (k == [99, 111, 110, 115]) = false := by subst hk; decide
  have qq11 : (k == [99, 97, 108, 108]) = false := by subst hk; decide
  have qq12 : (k == [43]) = false := by subst hk; decide
  have qq13 : (k == [45]) = true := by subst hk; decide
  clear hk
  rw [ho]
  have HS0 : Hid (Stp y base w s w s 0) := Stp.refl h0
  have H0 : Hid (Cy y base w s) := h0
  have HE0 : Hid (EnT w base l bp s) := hE
  obtain ⟨g, gc, hbb, hgb, k4, hgc, hsub⟩ := hN.subc (by simp)
  have hgl : g < w.heap.size := by have := h0.size; omega
  obtain ⟨p0, d0, n0⟩ := hsub 0 (by simp)
  have HN0 : Hid (Nd w (fun b => base ≤ b) a p0) := n0
  clear n0
  obtain ⟨p1, d1, n1⟩ := hsub 1 (by simp)
  have HN1 : Hid (Nd w (fun b => base ≤ b) b p1) := n1
  clear n1
  simp only [List.length_cons, List.length_nil, Nat.zero_add, Nat.reduceAdd] at k4
  simp only [List.length_cons, List.length_nil, Nat.zero_add, Nat.reduceAdd] at hgc
  have HSUB : Hid _ := hsub
  clear hsub
  have HN : Hid (Nd w (fun b => base ≤ b) (nd k z nm ow [a, b] pats) (.pointer (some ⟨bb, 0, none⟩))) := hN
  clear h0 hE hN
  simp only [ptrV]
  go_enter Tryz.func24, Tryz.ntmps24
  go_wp2_with fail
  have hM : M * (ua + ub) = M * ua + M * ub := by rw [Nat.mul_add]
  refine (all_at (k := [105, 110, 116]) IH H0.out HS0.out HE0.out ho hO (CtS.two hCa hCb) (by simp only [wts_cons, wts_nil] at *; omega) hgb HSUB.out rfl (by simp) (by decide) (by decide) hp (by omega)).mono ?_
  rintro e w1 ⟨rfl, s1, hS1, hu1⟩
  have HS1 : Hid (Stp y base w s w1 s1 (0 + (M * (ua + ub) + (va + vb + 2)))) := hS1
  have hb1 : bb < w1.heap.size := Nat.lt_of_lt_of_le hblt hS1.fr.size
  have c0_1 := hS1.cell H0.out hbb c0
  have c2_1 := hS1.cell H0.out hbb c2
  have hgl1 : g < w1.heap.size := Nat.lt_of_lt_of_le hgl hS1.fr.size
  have k4_1 := hS1.cell H0.out hbb k4
  have d0_1 := hS1.cell H0.out hgb d0
  have d1_1 := hS1.cell H0.out hgb d1
  have HE1 : Hid (EnT w1 base l bp s1) := HE0.out.stp H0.out hS1
  clear hS1 hu1
  go_wp2_with fail
  refine (kind0_at (k := [105, 110, 116]) H0.out HS1.out (by decide) (by decide)).mono ?_
  rintro e w2 ⟨s2, q2, rfl, hS2, hq2, hu2⟩
  have HS2 : Hid (Stp y base w s w2 s2 (0 + (M * (ua + ub) + (va + vb + 2)) + 1)) := hS2
  have hb2 : bb < w2.heap.size := Nat.lt_of_lt_of_le hblt hS2.fr.size
  have c0_2 := hS2.cell H0.out hbb c0
  have c2_2 := hS2.cell H0.out hbb c2
  have hgl2 : g < w2.heap.size := Nat.lt_of_lt_of_le hgl hS2.fr.size
  have k4_2 := hS2.cell H0.out hbb k4
  have d0_2 := hS2.cell H0.out hgb d0
  have d1_2 := hS2.cell H0.out hgb d1
  have HE2 : Hid (EnT w2 base l bp s2) := HE0.out.stp H0.out hS2
  have t2_2 := hq2
  clear hS2 hu2 hq2
  go_wp2_with fail
  go_ret
  exact ⟨s2, q2, rfl, HS2.out.le (by omega), t2_2⟩
end
end Go.Proofs.YtnbhnjokpcdnnaaGreatDoor

namespace Go.Proofs.YtnbhnjokpcdnnaaGreatDoor
open Go.RowKit

section
variable {y base K : Nat} {w : World} {s : TyS} {l : List EN} {bp : Nat → Value} {ns : List (List UInt8)} {f d M N c : Nat} {k nm ow : List UInt8} {z : Int} {p : Value} {pats : List Code}

set_option maxHeartbeats 3200000 in
set_option maxRecDepth 100000 in
theorem exp_op42 (IH : ExOk y base K) (hk : k = [42]) (h0 : Cy y base w s) (hE : EnT w base l bp s) (hO : EO f d M l ns) (hbad : s.bad = false) {a : Code} {ua va : Nat} (hCa : Cst N ns a ua va) (hda : d + wt a < K) {b : Code} {ub vb : Nat} (hCb : Cst N ns b ub vb) (hdb : d + wt b < K) (hds : d + (wt a + wt b) < K) (hN : Nd w (fun b => base ≤ b) (nd k z nm ow [a, b] pats) p) (hc : M * ua + va + (M * ub + vb) + 3 ≤ c) (hp : pot w s + (c : Int) ≤ 9223372036854775807) :
    Calls Tryz.prog 24 #[ptrV y, p, bp 0] w (TyR y base w s c) := by
  obtain ⟨bb, rfl, hbX, hblt⟩ := hN.ptr
  obtain ⟨o0, ho⟩ := hE.env.ptr
  obtain ⟨hyl, hy0, -, -⟩ := h0.ty.cells
  rw [hbad] at hy0
  obtain ⟨c0, c2, -⟩ := hN.cells
  have qq0 : (k == [110, 117, 109]) = false := by subst hk; decide
  have qq1 : (k == [114, 101, 97, 100]) = false := by subst hk; decide
  have qq2 : (k == [98, 111, 111, 108]) = false := by subst hk; decide
  have qq3 : (k == [110, 105, 108]) = false := by subst hk; decide
  have qq4 : (k == [118, 97, 114]) = false := by subst hk; decide
  have qq5 : (k == [102, 110]) = false := by subst hk; decide
  have qq6 : (k == [108, 101, 116]) = false := by subst hk; decide
  have qq7 : (k == [114, 101, 99]) = false := by subst hk; decide
  have qq8 : (k == [105, 102]) = false := by subst hk; decide
  have qq9 : (k == [112, 97, 105, 114]) = false := by subst hk; decide
  have qq10 : (k == [99, 111, 110, 115]) = false := by subst hk; decide
  have qq11 : (k == [99, 97, 108, 108]) = false := by subst hk; decide
  have qq12 : (k == [43]) = false := by subst hk; decide
  have qq13 : (k == [45]) = false := by subst hk; decide
  have qq14 : (k == [42]) = true := by subst hk; decide
  clear hk
  rw [ho]
  have HS0 : Hid (Stp y base w s w s 0) := Stp.refl h0
  have H0 : Hid (Cy y base w s) := h0
  have HE0 : Hid (EnT w base l bp s) := hE
  obtain ⟨g, gc, hbb, hgb, k4, hgc, hsub⟩ := hN.subc (by simp)
  have hgl : g < w.heap.size := by have := h0.size; omega
  obtain ⟨p0, d0, n0⟩ := hsub 0 (by simp)
  have HN0 : Hid (Nd w (fun b => base ≤ b) a p0) := n0
  clear n0
  obtain ⟨p1, d1, n1⟩ := hsub 1 (by simp)
  have HN1 : Hid (Nd w (fun b => base ≤ b) b p1) := n1
  clear n1
  simp only [List.length_cons, List.length_nil, Nat.zero_add, Nat.reduceAdd] at k4
  simp only [List.length_cons, List.length_nil, Nat.zero_add, Nat.reduceAdd] at hgc
  have HSUB : Hid _ := hsub
  clear hsub
  have HN : Hid (Nd w (fun b => base ≤ b) (nd k z nm ow [a, b] pats) (.pointer (some ⟨bb, 0, none⟩))) := hN
  clear h0 hE hN
  simp only [ptrV]
  go_enter Tryz.func24, Tryz.ntmps24
  go_wp2_with fail
  have hM : M * (ua + ub) = M * ua + M * ub := by rw [Nat.mul_add]
  refine (all_at (k := [105, 110, 116]) IH H0.out HS0.out HE0.out ho hO (CtS.two hCa hCb) (by simp only [wts_cons, wts_nil] at *; omega) hgb HSUB.out rfl (by simp) (by decide) (by decide) hp (by omega)).mono ?_
  rintro e w1 ⟨rfl, s1, hS1, hu1⟩
  have HS1 : Hid (Stp y base w s w1 s1 (0 + (M * (ua + ub) + (va + vb + 2)))) := hS1
  have hb1 : bb < w1.heap.size := Nat.lt_of_lt_of_le hblt hS1.fr.size
  have c0_1 := hS1.cell H0.out hbb c0
  have c2_1 := hS1.cell H0.out hbb c2
  have hgl1 : g < w1.heap.size := Nat.lt_of_lt_of_le hgl hS1.fr.size
  have k4_1 := hS1.cell H0.out hbb k4
  have d0_1 := hS1.cell H0.out hgb d0
  have d1_1 := hS1.cell H0.out hgb d1
  have HE1 : Hid (EnT w1 base l bp s1) := HE0.out.stp H0.out hS1
  clear hS1 hu1
  go_wp2_with fail
  refine (kind0_at (k := [105, 110, 116]) H0.out HS1.out (by decide) (by decide)).mono ?_
  rintro e w2 ⟨s2, q2, rfl, hS2, hq2, hu2⟩
  have HS2 : Hid (Stp y base w s w2 s2 (0 + (M * (ua + ub) + (va + vb + 2)) + 1)) := hS2
  have hb2 : bb < w2.heap.size := Nat.lt_of_lt_of_le hblt hS2.fr.size
  have c0_2 := hS2.cell H0.out hbb c0
  have c2_2 := hS2.cell H0.out hbb c2
  have hgl2 : g < w2.heap.size := Nat.lt_of_lt_of_le hgl hS2.fr.size
  have k4_2 := hS2.cell H0.out hbb k4
  have d0_2 := hS2.cell H0.out hgb d0
  have d1_2 := hS2.cell H0.out hgb d1
  have HE2 : Hid (EnT w2 base l bp s2) := HE0.out.stp H0.out hS2
  have t2_2 := hq2
  clear hS2 hu2 hq2
  go_wp2_with fail
  go_ret
  exact ⟨s2, q2, rfl, HS2.out.le (by omega), t2_2⟩

set_option maxHeartbeats 3200000 in
set_option maxRecDepth 100000 in
theorem exp_op47 (IH : ExOk y base K) (hk : k = [47]) (h0 : Cy y base w s) (hE : EnT w base l bp s) (hO : EO f d M l ns) (hbad : s.bad = false) {a : Code} {ua va : Nat} (hCa : Cst N ns a ua va) (hda : d + wt a < K) {b : Code} {ub vb : Nat} (hCb : Cst N ns b ub vb) (hdb : d + wt b < K) (hds : d + (wt a + wt b) < K) (hN : Nd w (fun b => base ≤ b) (nd k z nm ow [a, b] pats) p) (hc : M * ua + va + (M * ub + vb) + 3 ≤ c) (hp : pot w s + (c : Int) ≤ 9223372036854775807) :
    Calls Tryz.prog 24 #[ptrV y, p, bp 0] w (TyR y base w s c) := by
  obtain ⟨bb, rfl, hbX, hblt⟩ := hN.ptr
  obtain ⟨o0, ho⟩ := hE.env.ptr
  obtain ⟨hyl, hy0, -, -⟩ := h0.ty.cells
  rw [hbad] at hy0
  obtain ⟨c0, c2, -⟩ := hN.cells
  have qq0 : (k == [110, 117, 109]) = false := by subst hk; decide
  have qq1 : (k == [114, 101, 97, 100]) = false := by subst hk; decide
  have qq2 : (k == [98, 111, 111, 108]) = false := by subst hk; decide
  have qq3 : (k == [110, 105, 108]) = false := by subst hk; decide
  have qq4 : (k == [118, 97, 114]) = false := by subst hk; decide
  have qq5 : (k == [102, 110]) = false := by subst hk; decide
  have qq6 : (k == [108, 101, 116]) = false := by subst hk; decide
  have qq7 : (k == [114, 101, 99]) = false := by subst hk; decide
  have qq8 : (k == [105, 102]) = false := by subst hk; decide
  have qq9 : (k == [112, 97, 105, 114]) = false := by subst hk; decide
  have qq10 : (k == [99, 111, 110, 115]) = false := by subst hk; decide
  have qq11 : (k == [99, 97, 108, 108]) = false := by subst hk; decide
  have qq12 : (k == [43]) = false := by subst hk; decide
  have qq13 : (k == [45]) = false := by subst hk; decide
  have qq14 : (k == [42]) = false := by subst hk; decide
  have qq15 : (k == [47]) = true := by subst hk; decide
  clear hk
  rw [ho]
  have HS0 : Hid (Stp y base w s w s 0) := Stp.refl h0
  have H0 : Hid (Cy y base w s) := h0
  have HE0 : Hid (EnT w base l bp s) := hE
  obtain ⟨g, gc, hbb, hgb, k4, hgc, hsub⟩ := hN.subc (by simp)
  have hgl : g < w.heap.size := by have := h0.size; omega
  obtain ⟨p0, d0, n0⟩ := hsub 0 (by simp)
  have HN0 : Hid (Nd w (fun b => base ≤ b) a p0) := n0
  clear n0
  obtain ⟨p1, d1, n1⟩ := hsub 1 (by simp)
  have HN1 : Hid (Nd w (fun b => base ≤ b) b p1) := n1
  clear n1
  simp only [List.length_cons, List.length_nil, Nat.zero_add, Nat.reduceAdd] at k4
  simp only [List.length_cons, List.length_nil, Nat.zero_add, Nat.reduceAdd] at hgc
  have HSUB : Hid _ := hsub
  clear hsub
  have HN : Hid (Nd w (fun b => base ≤ b) (nd k z nm ow [a, b] pats) (.pointer (some ⟨bb, 0, none⟩))) := hN
  clear h0 hE hN
  simp only [ptrV]
  go_enter Tryz.func24, Tryz.ntmps24
  go_wp2_with fail
  have hM : M * (ua + ub) = M * ua + M * ub := by rw [Nat.mul_add]
  refine (all_at (k := [105, 110, 116]) IH H0.out HS0.out HE0.out ho hO (CtS.two hCa hCb) (by simp only [wts_cons, wts_nil] at *; omega) hgb HSUB.out rfl (by simp) (by decide) (by decide) hp (by omega)).mono ?_
  rintro e w1 ⟨rfl, s1, hS1, hu1⟩
  have HS1 : Hid (Stp y base w s w1 s1 (0 + (M * (ua + ub) + (va + vb + 2)))) := hS1
  have hb1 : bb < w1.heap.size := Nat.lt_of_lt_of_le hblt hS1.fr.size
  have c0_1 := hS1.cell H0.out hbb c0
  have c2_1 := hS1.cell H0.out hbb c2
  have hgl1 : g < w1.heap.size := Nat.lt_of_lt_of_le hgl hS1.fr.size
  have k4_1 := hS1.cell H0.out hbb k4
  have d0_1 := hS1.cell H0.out hgb d0
  have d1_1 := hS1.cell H0.out hgb d1
  have HE1 : Hid (EnT w1 base l bp s1) := HE0.out.stp H0.out hS1
  clear hS1 hu1
  go_wp2_with fail
  refine (kind0_at (k := [105, 110, 116]) H0.out HS1.out (by decide) (by decide)).mono ?_
  rintro e w2 ⟨s2, q2, rfl, hS2, hq2, hu2⟩
  have HS2 : Hid (Stp y base w s w2 s2 (0 + (M * (ua + ub) + (va + vb + 2)) + 1)) := hS2
  have hb2 : bb < w2.heap.size := Nat.lt_of_lt_of_le hblt hS2.fr.size
  have c0_2 := hS2.cell H0.out hbb c0
  have c2_2 := hS2.cell H0.out hbb c2
  have hgl2 : g < w2.heap.size := Nat.lt_of_lt_of_le hgl hS2.fr.size
  have k4_2 := hS2.cell H0.out hbb k4
  have d0_2 := hS2.cell H0.out hgb d0
  have d1_2 := hS2.cell H0.out hgb d1
  have HE2 : Hid (EnT w2 base l bp s2) := HE0.out.stp H0.out hS2
  have t2_2 := hq2
  clear hS2 hu2 hq2
  go_wp2_with fail
  go_ret
  exact ⟨s2, q2, rfl, HS2.out.le (by omega), t2_2⟩
end
end Go.Proofs.YtnbhnjokpcdnnaaGreatDoor

namespace Go.Proofs.YtnbhnjokpcdnnaaGreatDoor
open Go.RowKit

section
variable {y base K : Nat} {w : World} {s : TyS} {l : List EN} {bp : Nat → Value} {ns : List (List UInt8)} {f d M N c : Nat} {k nm ow : List UInt8} {z : Int} {p : Value} {pats : List Code}

set_option maxHeartbeats 3200000 in
set_option maxRecDepth 100000 in
theorem exp_op61 (IH : ExOk y base K) (hk : k = [61]) (h0 : Cy y base w s) (hE : EnT w base l bp s) (hO : EO f d M l ns) (hbad : s.bad = false) {a : Code} {ua va : Nat} (hCa : Cst N ns a ua va) (hda : d + wt a < K) {b : Code} {ub vb : Nat} (hCb : Cst N ns b ub vb) (hdb : d + wt b < K) (hds : d + (wt a + wt b) < K) (hN : Nd w (fun b => base ≤ b) (nd k z nm ow [a, b] pats) p) (hc : M * ua + va + (M * ub + vb) + 3 ≤ c) (hp : pot w s + (c : Int) ≤ 9223372036854775807) :
    Calls Tryz.prog 24 #[ptrV y, p, bp 0] w (TyR y base w s c) := by
  obtain ⟨bb, rfl, hbX, hblt⟩ := hN.ptr
  obtain ⟨o0, ho⟩ := hE.env.ptr
  obtain ⟨hyl, hy0, -, -⟩ := h0.ty.cells
  rw [hbad] at hy0
  obtain ⟨c0, c2, -⟩ := hN.cells
  have qq0 : (k == [110, 117, 109]) = false := by subst hk; decide
  have qq1 : (k == [114, 101, 97, 100]) = false := by subst hk; decide
  have qq2 : (k == [98, 111, 111, 108]) = false := by subst hk; decide
  have qq3 : (k == [110, 105, 108]) = false := by subst hk; decide
  have qq4 : (k == [118, 97, 114]) = false := by subst hk; decide
  have qq5 : (k == [102, 110]) = false := by subst hk; decide
  have qq6 : (k == [108, 101, 116]) = false := by subst hk; decide
  have qq7 : (k == [114, 101, 99]) = false := by subst hk; decide
  have qq8 : (k == [105, 102]) = false := by subst hk; decide
  have qq9 : (k == [112, 97, 105, 114]) = false := by subst hk; decide
  have qq10 : (k == [99, 111, 110, 115]) = false := by subst hk; decide
  have qq11 : (k == [99, 97, 108, 108]) = false := by subst hk; decide
  have qq12 : (k == [43]) = false := by subst hk; decide
  have qq13 : (k == [45]) = false := by subst hk; decide
  have qq14 : (k == [42]) = false := by subst hk; decide
  have qq15 : (k == [47]) = false := by subst hk; decide
  have qq16 : (k == [112, 114, 105, 110, 116]) = false := by subst hk; decide
  have qq17 : (k == [61]) = true := by subst hk; decide
  clear hk
  rw [ho]
  have HS0 : Hid (Stp y base w s w s 0) := Stp.refl h0
  have H0 : Hid (Cy y base w s) := h0
  have HE0 : Hid (EnT w base l bp s) := hE
  obtain ⟨g, gc, hbb, hgb, k4, hgc, hsub⟩ := hN.subc (by simp)
  have hgl : g < w.heap.size := by have := h0.size; omega
  obtain ⟨p0, d0, n0⟩ := hsub 0 (by simp)
  have HN0 : Hid (Nd w (fun b => base ≤ b) a p0) := n0
  clear n0
  obtain ⟨p1, d1, n1⟩ := hsub 1 (by simp)
  have HN1 : Hid (Nd w (fun b => base ≤ b) b p1) := n1
  clear n1
  simp only [List.length_cons, List.length_nil, Nat.zero_add, Nat.reduceAdd] at k4
  simp only [List.length_cons, List.length_nil, Nat.zero_add, Nat.reduceAdd] at hgc
  have HSUB : Hid _ := hsub
  clear hsub
  have HN : Hid (Nd w (fun b => base ≤ b) (nd k z nm ow [a, b] pats) (.pointer (some ⟨bb, 0, none⟩))) := hN
  clear h0 hE hN
  simp only [ptrV]
  go_enter Tryz.func24, Tryz.ntmps24
  go_wp2_with fail
  have hM : M * (ua + ub) = M * ua + M * ub := by rw [Nat.mul_add]
  refine (all_at (k := [105, 110, 116]) IH H0.out HS0.out HE0.out ho hO (CtS.two hCa hCb) (by simp only [wts_cons, wts_nil] at *; omega) hgb HSUB.out rfl (by simp) (by decide) (by decide) hp (by omega)).mono ?_
  rintro e w1 ⟨rfl, s1, hS1, hu1⟩
  have HS1 : Hid (Stp y base w s w1 s1 (0 + (M * (ua + ub) + (va + vb + 2)))) := hS1
  have hb1 : bb < w1.heap.size := Nat.lt_of_lt_of_le hblt hS1.fr.size
  have c0_1 := hS1.cell H0.out hbb c0
  have c2_1 := hS1.cell H0.out hbb c2
  have hgl1 : g < w1.heap.size := Nat.lt_of_lt_of_le hgl hS1.fr.size
  have k4_1 := hS1.cell H0.out hbb k4
  have d0_1 := hS1.cell H0.out hgb d0
  have d1_1 := hS1.cell H0.out hgb d1
  have HE1 : Hid (EnT w1 base l bp s1) := HE0.out.stp H0.out hS1
  clear hS1 hu1
  go_wp2_with fail
  refine (kind0_at (k := [98, 111, 111, 108]) H0.out HS1.out (by decide) (by decide)).mono ?_
  rintro e w2 ⟨s2, q2, rfl, hS2, hq2, hu2⟩
  have HS2 : Hid (Stp y base w s w2 s2 (0 + (M * (ua + ub) + (va + vb + 2)) + 1)) := hS2
  have hb2 : bb < w2.heap.size := Nat.lt_of_lt_of_le hblt hS2.fr.size
  have c0_2 := hS2.cell H0.out hbb c0
  have c2_2 := hS2.cell H0.out hbb c2
  have hgl2 : g < w2.heap.size := Nat.lt_of_lt_of_le hgl hS2.fr.size
  have k4_2 := hS2.cell H0.out hbb k4
  have d0_2 := hS2.cell H0.out hgb d0
  have d1_2 := hS2.cell H0.out hgb d1
  have HE2 : Hid (EnT w2 base l bp s2) := HE0.out.stp H0.out hS2
  have t2_2 := hq2
  clear hS2 hu2 hq2
  go_wp2_with fail
  go_ret
  exact ⟨s2, q2, rfl, HS2.out.le (by omega), t2_2⟩

set_option maxHeartbeats 3200000 in
set_option maxRecDepth 100000 in
theorem exp_op60 (IH : ExOk y base K) (hk : k = [60]) (h0 : Cy y base w s) (hE : EnT w base l bp s) (hO : EO f d M l ns) (hbad : s.bad = false) {a : Code} {ua va : Nat} (hCa : Cst N ns a ua va) (hda : d + wt a < K) {b : Code} {ub vb : Nat} (hCb : Cst N ns b ub vb) (hdb : d + wt b < K) (hds : d + (wt a + wt b) < K) (hN : Nd w (fun b => base ≤ b) (nd k z nm ow [a, b] pats) p) (hc : M * ua + va + (M * ub + vb) + 3 ≤ c) (hp : pot w s + (c : Int) ≤ 9223372036854775807) :
    Calls Tryz.prog 24 #[ptrV y, p, bp 0] w (TyR y base w s c) := by
  obtain ⟨bb, rfl, hbX, hblt⟩ := hN.ptr
  obtain ⟨o0, ho⟩ := hE.env.ptr
  obtain ⟨hyl, hy0, -, -⟩ := h0.ty.cells
  rw [hbad] at hy0
  obtain ⟨c0, c2, -⟩ := hN.cells
  have qq0 : (k == [110, 117, 109]) = false := by subst hk; decide
  have qq1 : (k == [114, 101, 97, 100]) = false := by subst hk; decide
  have qq2 : (k == [98, 111, 111, 108]) = false := by subst hk; decide
  have qq3 : (k == [110, 105, 108]) = false := by subst hk; decide
  have qq4 : (k == [118, 97, 114]) = false := by subst hk; decide
  have qq5 : (k == [102, 110]) = false := by subst hk; decide
  have qq6 : (k == [108, 101, 116]) = false := by subst hk; decide
  have qq7 : (k == [114, 101, 99]) = false := by subst hk; decide
  have qq8 : (k == [105, 102]) = false := by subst hk; decide
  have qq9 : (k == [112, 97, 105, 114]) = false := by subst hk; decide
  have qq10 : (k == [99, 111, 110, 115]) = false := by subst hk; decide
  have qq11 : (k == [99, 97, 108, 108]) = false := by subst hk; decide
  have qq12 : (k == [43]) = false := by subst hk; decide
  have qq13 : (k == [45]) = false := by subst hk; decide
  have qq14 : (k == [42]) = false := by subst hk; decide
  have qq15 : (k == [47]) = false := by subst hk; decide
  have qq16 : (k == [112, 114, 105, 110, 116]) = false := by subst hk; decide
  have qq17 : (k == [61]) = false := by subst hk; decide
  have qq18 : (k == [60]) = true := by subst hk; decide
  clear hk
  rw [ho]
  have HS0 : Hid (Stp y base w s w s 0) := Stp.refl h0
  have H0 : Hid (Cy y base w s) := h0
  have HE0 : Hid (EnT w base l bp s) := hE
  obtain ⟨g, gc, hbb, hgb, k4, hgc, hsub⟩ := hN.subc (by simp)
  have hgl : g < w.heap.size := by have := h0.size; omega
  obtain ⟨p0, d0, n0⟩ := hsub 0 (by simp)
  have HN0 : Hid (Nd w (fun b => base ≤ b) a p0) := n0
  clear n0
  obtain ⟨p1, d1, n1⟩ := hsub 1 (by simp)
  have HN1 : Hid (Nd w (fun b => base ≤ b) b p1) := n1
  clear n1
  simp only [List.length_cons, List.length_nil, Nat.zero_add, Nat.reduceAdd] at k4
  simp only [List.length_cons, List.length_nil, Nat.zero_add, Nat.reduceAdd] at hgc
  have HSUB : Hid _ := hsub
  clear hsub
  have HN : Hid (Nd w (fun b => base ≤ b) (nd k z nm ow [a, b] pats) (.pointer (some ⟨bb, 0, none⟩))) := hN
  clear h0 hE hN
  simp only [ptrV]
  go_enter Tryz.func24, Tryz.ntmps24
  go_wp2_with fail
  have hM : M * (ua + ub) = M * ua + M * ub := by rw [Nat.mul_add]
  refine (all_at (k := [105, 110, 116]) IH H0.out HS0.out HE0.out ho hO (CtS.two hCa hCb) (by simp only [wts_cons, wts_nil] at *; omega) hgb HSUB.out rfl (by simp) (by decide) (by decide) hp (by omega)).mono ?_
  rintro e w1 ⟨rfl, s1, hS1, hu1⟩
  have HS1 : Hid (Stp y base w s w1 s1 (0 + (M * (ua + ub) + (va + vb + 2)))) := hS1
  have hb1 : bb < w1.heap.size := Nat.lt_of_lt_of_le hblt hS1.fr.size
  have c0_1 := hS1.cell H0.out hbb c0
  have c2_1 := hS1.cell H0.out hbb c2
  have hgl1 : g < w1.heap.size := Nat.lt_of_lt_of_le hgl hS1.fr.size
  have k4_1 := hS1.cell H0.out hbb k4
  have d0_1 := hS1.cell H0.out hgb d0
  have d1_1 := hS1.cell H0.out hgb d1
  have HE1 : Hid (EnT w1 base l bp s1) := HE0.out.stp H0.out hS1
  clear hS1 hu1
  go_wp2_with fail
  refine (kind0_at (k := [98, 111, 111, 108]) H0.out HS1.out (by decide) (by decide)).mono ?_
  rintro e w2 ⟨s2, q2, rfl, hS2, hq2, hu2⟩
  have HS2 : Hid (Stp y base w s w2 s2 (0 + (M * (ua + ub) + (va + vb + 2)) + 1)) := hS2
  have hb2 : bb < w2.heap.size := Nat.lt_of_lt_of_le hblt hS2.fr.size
  have c0_2 := hS2.cell H0.out hbb c0
  have c2_2 := hS2.cell H0.out hbb c2
  have hgl2 : g < w2.heap.size := Nat.lt_of_lt_of_le hgl hS2.fr.size
  have k4_2 := hS2.cell H0.out hbb k4
  have d0_2 := hS2.cell H0.out hgb d0
  have d1_2 := hS2.cell H0.out hgb d1
  have HE2 : Hid (EnT w2 base l bp s2) := HE0.out.stp H0.out hS2
  have t2_2 := hq2
  clear hS2 hu2 hq2
  go_wp2_with fail
  go_ret
  exact ⟨s2, q2, rfl, HS2.out.le (by omega), t2_2⟩
end
end Go.Proofs.YtnbhnjokpcdnnaaGreatDoor

namespace Go.Proofs.YtnbhnjokpcdnnaaGreatDoor
open Go.RowKit

section
variable {y base K : Nat} {w : World} {s : TyS} {l : List EN} {bp : Nat → Value} {ns : List (List UInt8)} {f d M N c : Nat} {k nm ow : List UInt8} {z : Int} {p : Value} {pats : List Code}

set_option maxHeartbeats 3200000 in
set_option maxRecDepth 100000 in
theorem exp_print (IH : ExOk y base K) (hk : k = [112, 114, 105, 110, 116]) (h0 : Cy y base w s) (hE : EnT w base l bp s) (hO : EO f d M l ns) (hbad : s.bad = false) {a : Code} {ua va : Nat} (hCa : Cst N ns a ua va) (hda : d + wt a < K) (hN : Nd w (fun b => base ≤ b) (nd k z nm ow [a] pats) p) (hc : M * ua + va + 2 ≤ c) (hp : pot w s + (c : Int) ≤ 9223372036854775807) :
    Calls Tryz.prog 24 #[ptrV y, p, bp 0] w (TyR y base w s c) := by
  obtain ⟨bb, rfl, hbX, hblt⟩ := hN.ptr
  obtain ⟨o0, ho⟩ := hE.env.ptr
  obtain ⟨hyl, hy0, -, -⟩ := h0.ty.cells
  rw [hbad] at hy0
  obtain ⟨c0, c2, -⟩ := hN.cells
  have qq0 : (k == [110, 117, 109]) = false := by subst hk; decide
  have qq1 : (k == [114, 101, 97, 100]) = false := by subst hk; decide
  have qq2 : (k == [98, 111, 111, 108]) = false := by subst hk; decide
  have qq3 : (k == [110, 105, 108]) = false := by subst hk; decide
  have qq4 : (k == [118, 97, 114]) = false := by subst hk; decide
  have qq5 : (k == [102, 110]) = false := by subst hk; decide
  have qq6 : (k == [108, 101, 116]) = false := by subst hk; decide
  have qq7 : (k == [114, 101, 99]) = false := by subst hk; decide
  have qq8 : (k == [105, 102]) = false := by subst hk; decide
  have qq9 : (k == [112, 97, 105, 114]) = false := by subst hk; decide
  have qq10 : (k == [99, 111, 110, 115]) = false := by subst hk; decide
  have qq11 : (k == [99, 97, 108, 108]) = false := by subst hk; decide
  have qq12 : (k == [43]) = false := by subst hk; decide
  have qq13 : (k == [45]) = false := by subst hk; decide
  have qq14 : (k == [42]) = false := by subst hk; decide
  have qq15 : (k == [47]) = false := by subst hk; decide
  have qq16 : (k == [112, 114, 105, 110, 116]) = true := by subst hk; decide
  clear hk
  rw [ho]
  have HS0 : Hid (Stp y base w s w s 0) := Stp.refl h0
  have H0 : Hid (Cy y base w s) := h0
  have HE0 : Hid (EnT w base l bp s) := hE
  obtain ⟨g, gc, hbb, hgb, k4, hgc, hsub⟩ := hN.subc (by simp)
  have hgl : g < w.heap.size := by have := h0.size; omega
  obtain ⟨p0, d0, n0⟩ := hsub 0 (by simp)
  have HN0 : Hid (Nd w (fun b => base ≤ b) a p0) := n0
  clear n0
  simp only [List.length_cons, List.length_nil, Nat.zero_add, Nat.reduceAdd] at k4
  simp only [List.length_cons, List.length_nil, Nat.zero_add, Nat.reduceAdd] at hgc
  have HSUB : Hid _ := hsub
  clear hsub
  have HN : Hid (Nd w (fun b => base ≤ b) (nd k z nm ow [a] pats) (.pointer (some ⟨bb, 0, none⟩))) := hN
  clear h0 hE hN
  simp only [ptrV]
  go_enter Tryz.func24, Tryz.ntmps24
  go_wp2_with fail
  have hM : M * (ua) = M * ua := by rfl
  refine (all_at (k := [105, 110, 116]) IH H0.out HS0.out HE0.out ho hO (CtS.one hCa) (by simp only [wts_cons, wts_nil] at *; omega) hgb HSUB.out rfl (by simp) (by decide) (by decide) hp (by omega)).mono ?_
  rintro e w1 ⟨rfl, s1, hS1, hu1⟩
  have HS1 : Hid (Stp y base w s w1 s1 (0 + (M * (ua) + (va + 1)))) := hS1
  have hb1 : bb < w1.heap.size := Nat.lt_of_lt_of_le hblt hS1.fr.size
  have c0_1 := hS1.cell H0.out hbb c0
  have c2_1 := hS1.cell H0.out hbb c2
  have hgl1 : g < w1.heap.size := Nat.lt_of_lt_of_le hgl hS1.fr.size
  have k4_1 := hS1.cell H0.out hbb k4
  have d0_1 := hS1.cell H0.out hgb d0
  have HE1 : Hid (EnT w1 base l bp s1) := HE0.out.stp H0.out hS1
  clear hS1 hu1
  go_wp2_with fail
  refine (kind0_at (k := [105, 110, 116]) H0.out HS1.out (by decide) (by decide)).mono ?_
  rintro e w2 ⟨s2, q2, rfl, hS2, hq2, hu2⟩
  have HS2 : Hid (Stp y base w s w2 s2 (0 + (M * (ua) + (va + 1)) + 1)) := hS2
  have hb2 : bb < w2.heap.size := Nat.lt_of_lt_of_le hblt hS2.fr.size
  have c0_2 := hS2.cell H0.out hbb c0
  have c2_2 := hS2.cell H0.out hbb c2
  have hgl2 : g < w2.heap.size := Nat.lt_of_lt_of_le hgl hS2.fr.size
  have k4_2 := hS2.cell H0.out hbb k4
  have d0_2 := hS2.cell H0.out hgb d0
  have HE2 : Hid (EnT w2 base l bp s2) := HE0.out.stp H0.out hS2
  have t2_2 := hq2
  clear hS2 hu2 hq2
  go_wp2_with fail
  go_ret
  exact ⟨s2, q2, rfl, HS2.out.le (by omega), t2_2⟩

set_option maxHeartbeats 3200000 in
set_option maxRecDepth 100000 in
theorem exp_raise (IH : ExOk y base K) (hk : k = [114, 97, 105, 115, 101]) (h0 : Cy y base w s) (hE : EnT w base l bp s) (hO : EO f d M l ns) (hbad : s.bad = false) {a : Code} {ua va : Nat} (hCa : Cst N ns a ua va) (hda : d + wt a < K) (hN : Nd w (fun b => base ≤ b) (nd k z nm ow [a] pats) p) (hc : M * ua + va + 2 ≤ c) (hp : pot w s + (c : Int) ≤ 9223372036854775807) :
    Calls Tryz.prog 24 #[ptrV y, p, bp 0] w (TyR y base w s c) := by
  obtain ⟨bb, rfl, hbX, hblt⟩ := hN.ptr
  obtain ⟨o0, ho⟩ := hE.env.ptr
  obtain ⟨hyl, hy0, -, -⟩ := h0.ty.cells
  rw [hbad] at hy0
  obtain ⟨c0, c2, -⟩ := hN.cells
  have qq0 : (k == [110, 117, 109]) = false := by subst hk; decide
  have qq1 : (k == [114, 101, 97, 100]) = false := by subst hk; decide
  have qq2 : (k == [98, 111, 111, 108]) = false := by subst hk; decide
  have qq3 : (k == [110, 105, 108]) = false := by subst hk; decide
  have qq4 : (k == [118, 97, 114]) = false := by subst hk; decide
  have qq5 : (k == [102, 110]) = false := by subst hk; decide
  have qq6 : (k == [108, 101, 116]) = false := by subst hk; decide
  have qq7 : (k == [114, 101, 99]) = false := by subst hk; decide
  have qq8 : (k == [105, 102]) = false := by subst hk; decide
  have qq9 : (k == [112, 97, 105, 114]) = false := by subst hk; decide
  have qq10 : (k == [99, 111, 110, 115]) = false := by subst hk; decide
  have qq11 : (k == [99, 97, 108, 108]) = false := by subst hk; decide
  have qq12 : (k == [43]) = false := by subst hk; decide
  have qq13 : (k == [45]) = false := by subst hk; decide
  have qq14 : (k == [42]) = false := by subst hk; decide
  have qq15 : (k == [47]) = false := by subst hk; decide
  have qq16 : (k == [112, 114, 105, 110, 116]) = false := by subst hk; decide
  have qq17 : (k == [61]) = false := by subst hk; decide
  have qq18 : (k == [60]) = false := by subst hk; decide
  have qq19 : (k == [114, 97, 105, 115, 101]) = true := by subst hk; decide
  clear hk
  rw [ho]
  have HS0 : Hid (Stp y base w s w s 0) := Stp.refl h0
  have H0 : Hid (Cy y base w s) := h0
  have HE0 : Hid (EnT w base l bp s) := hE
  obtain ⟨g, gc, hbb, hgb, k4, hgc, hsub⟩ := hN.subc (by simp)
  have hgl : g < w.heap.size := by have := h0.size; omega
  obtain ⟨p0, d0, n0⟩ := hsub 0 (by simp)
  have HN0 : Hid (Nd w (fun b => base ≤ b) a p0) := n0
  clear n0
  simp only [List.length_cons, List.length_nil, Nat.zero_add, Nat.reduceAdd] at k4
  simp only [List.length_cons, List.length_nil, Nat.zero_add, Nat.reduceAdd] at hgc
  have HSUB : Hid _ := hsub
  clear hsub
  have HN : Hid (Nd w (fun b => base ≤ b) (nd k z nm ow [a] pats) (.pointer (some ⟨bb, 0, none⟩))) := hN
  clear h0 hE hN
  simp only [ptrV]
  go_enter Tryz.func24, Tryz.ntmps24
  go_wp2_with fail
  have hM : M * (ua) = M * ua := by rfl
  refine (all_at (k := [105, 110, 116]) IH H0.out HS0.out HE0.out ho hO (CtS.one hCa) (by simp only [wts_cons, wts_nil] at *; omega) hgb HSUB.out rfl (by simp) (by decide) (by decide) hp (by omega)).mono ?_
  rintro e w1 ⟨rfl, s1, hS1, hu1⟩
  have HS1 : Hid (Stp y base w s w1 s1 (0 + (M * (ua) + (va + 1)))) := hS1
  have hb1 : bb < w1.heap.size := Nat.lt_of_lt_of_le hblt hS1.fr.size
  have c0_1 := hS1.cell H0.out hbb c0
  have c2_1 := hS1.cell H0.out hbb c2
  have hgl1 : g < w1.heap.size := Nat.lt_of_lt_of_le hgl hS1.fr.size
  have k4_1 := hS1.cell H0.out hbb k4
  have d0_1 := hS1.cell H0.out hgb d0
  have HE1 : Hid (EnT w1 base l bp s1) := HE0.out.stp H0.out hS1
  clear hS1 hu1
  go_wp2_with fail
  refine (kind0_at (k := []) H0.out HS1.out (by decide) (by decide)).mono ?_
  rintro e w2 ⟨s2, q2, rfl, hS2, hq2, hu2⟩
  have HS2 : Hid (Stp y base w s w2 s2 (0 + (M * (ua) + (va + 1)) + 1)) := hS2
  have hb2 : bb < w2.heap.size := Nat.lt_of_lt_of_le hblt hS2.fr.size
  have c0_2 := hS2.cell H0.out hbb c0
  have c2_2 := hS2.cell H0.out hbb c2
  have hgl2 : g < w2.heap.size := Nat.lt_of_lt_of_le hgl hS2.fr.size
  have k4_2 := hS2.cell H0.out hbb k4
  have d0_2 := hS2.cell H0.out hgb d0
  have HE2 : Hid (EnT w2 base l bp s2) := HE0.out.stp H0.out hS2
  have t2_2 := hq2
  clear hS2 hu2 hq2
  go_wp2_with fail
  go_ret
  exact ⟨s2, q2, rfl, HS2.out.le (by omega), t2_2⟩
end
end Go.Proofs.YtnbhnjokpcdnnaaGreatDoor

namespace Go.Proofs.YtnbhnjokpcdnnaaGreatDoor
open Go.RowKit

section
variable {y base K : Nat} {w : World} {s : TyS} {l : List EN} {bp : Nat → Value} {ns : List (List UInt8)} {f d M N c : Nat} {k nm ow : List UInt8} {z : Int} {p : Value} {pats : List Code}

set_option maxHeartbeats 3200000 in
set_option maxRecDepth 100000 in
theorem exp_if (IH : ExOk y base K) (hk : k = [105, 102]) (h0 : Cy y base w s) (hE : EnT w base l bp s) (hO : EO f d M l ns) (hbad : s.bad = false) {a : Code} {ua va : Nat} (hCa : Cst N ns a ua va) (hda : d + wt a < K) {b : Code} {ub vb : Nat} (hCb : Cst N ns b ub vb) (hdb : d + wt b < K) {x : Code} {ux vx : Nat} (hCx : Cst N ns x ux vx) (hdx : d + wt x < K) (hN : Nd w (fun b => base ≤ b) (nd k z nm ow [a, b, x] pats) p) (hc : M * ua + va + (M * ub + vb) + (M * ux + vx) + 1 ≤ c) (hp : pot w s + (c : Int) ≤ 9223372036854775807) :
    Calls Tryz.prog 24 #[ptrV y, p, bp 0] w (TyR y base w s c) := by
  obtain ⟨bb, rfl, hbX, hblt⟩ := hN.ptr
  obtain ⟨o0, ho⟩ := hE.env.ptr
  obtain ⟨hyl, hy0, -, -⟩ := h0.ty.cells
  rw [hbad] at hy0
  obtain ⟨c0, c2, -⟩ := hN.cells
  have qq0 : (k == [110, 117, 109]) = false := by subst hk; decide
  have qq1 : (k == [114, 101, 97, 100]) = false := by subst hk; decide
  have qq2 : (k == [98, 111, 111, 108]) = false := by subst hk; decide
  have qq3 : (k == [110, 105, 108]) = false := by subst hk; decide
  have qq4 : (k == [118, 97, 114]) = false := by subst hk; decide
  have qq5 : (k == [102, 110]) = false := by subst hk; decide
  have qq6 : (k == [108, 101, 116]) = false := by subst hk; decide
  have qq7 : (k == [114, 101, 99]) = false := by subst hk; decide
  have qq8 : (k == [105, 102]) = true := by subst hk; decide
  clear hk
  rw [ho]
  have HS0 : Hid (Stp y base w s w s 0) := Stp.refl h0
  have H0 : Hid (Cy y base w s) := h0
  have HE0 : Hid (EnT w base l bp s) := hE
  obtain ⟨g, gc, hbb, hgb, k4, hgc, hsub⟩ := hN.subc (by simp)
  have hgl : g < w.heap.size := by have := h0.size; omega
  obtain ⟨p0, d0, n0⟩ := hsub 0 (by simp)
  have HN0 : Hid (Nd w (fun b => base ≤ b) a p0) := n0
  clear n0
  obtain ⟨p1, d1, n1⟩ := hsub 1 (by simp)
  have HN1 : Hid (Nd w (fun b => base ≤ b) b p1) := n1
  clear n1
  obtain ⟨p2, d2, n2⟩ := hsub 2 (by simp)
  have HN2 : Hid (Nd w (fun b => base ≤ b) x p2) := n2
  clear n2
  simp only [List.length_cons, List.length_nil, Nat.zero_add, Nat.reduceAdd] at k4
  simp only [List.length_cons, List.length_nil, Nat.zero_add, Nat.reduceAdd] at hgc
  have HSUB : Hid _ := hsub
  clear hsub
  have HN : Hid (Nd w (fun b => base ≤ b) (nd k z nm ow [a, b, x] pats) (.pointer (some ⟨bb, 0, none⟩))) := hN
  clear h0 hE hN
  simp only [ptrV]
  go_enter Tryz.func24, Tryz.ntmps24
  go_wp2_with fail
  have hM : M * (ua) = M * ua := by rfl
  refine (all_at (k := [98, 111, 111, 108]) IH H0.out HS0.out HE0.out ho hO (CtS.one hCa) (by simp only [wts_cons, wts_nil] at *; omega) hgb (fun i hi => by obtain rfl : i = 0 := (by simpa using hi); exact HSUB.out 0 (by simp)) rfl (by simp) (by decide) (by decide) hp (by omega)).mono ?_
  rintro e w1 ⟨rfl, s1, hS1, hu1⟩
  have HS1 : Hid (Stp y base w s w1 s1 (0 + (M * (ua) + (va + 1)))) := hS1
  have hb1 : bb < w1.heap.size := Nat.lt_of_lt_of_le hblt hS1.fr.size
  have c0_1 := hS1.cell H0.out hbb c0
  have c2_1 := hS1.cell H0.out hbb c2
  have hgl1 : g < w1.heap.size := Nat.lt_of_lt_of_le hgl hS1.fr.size
  have k4_1 := hS1.cell H0.out hbb k4
  have d0_1 := hS1.cell H0.out hgb d0
  have d1_1 := hS1.cell H0.out hgb d1
  have d2_1 := hS1.cell H0.out hgb d2
  have HE1 : Hid (EnT w1 base l bp s1) := HE0.out.stp H0.out hS1
  clear hS1 hu1
  go_wp2_with fail
  refine (exp_at IH H0.out HS1.out HE1.out ho hO hCb hdb (HS1.out.nd H0.out HN1.out) hp (by omega)).mono ?_
  rintro e w2 ⟨s2, q2, rfl, hS2, hq2, hu2⟩
  have HS2 : Hid (Stp y base w s w2 s2 (0 + (M * (ua) + (va + 1)) + (M * ub + vb))) := hS2
  have hb2 : bb < w2.heap.size := Nat.lt_of_lt_of_le hblt hS2.fr.size
  have c0_2 := hS2.cell H0.out hbb c0
  have c2_2 := hS2.cell H0.out hbb c2
  have hgl2 : g < w2.heap.size := Nat.lt_of_lt_of_le hgl hS2.fr.size
  have k4_2 := hS2.cell H0.out hbb k4
  have d0_2 := hS2.cell H0.out hgb d0
  have d1_2 := hS2.cell H0.out hgb d1
  have d2_2 := hS2.cell H0.out hgb d2
  have HE2 : Hid (EnT w2 base l bp s2) := HE0.out.stp H0.out hS2
  have t2_2 := hq2
  clear hS2 hu2 hq2
  go_wp2_with fail
  refine (exp_at IH H0.out HS2.out HE2.out ho hO hCx hdx (HS2.out.nd H0.out HN2.out) hp (by omega)).mono ?_
  rintro e w3 ⟨s3, q3, rfl, hS3, hq3, hu3⟩
  have HS3 : Hid (Stp y base w s w3 s3 (0 + (M * (ua) + (va + 1)) + (M * ub + vb) + (M * ux + vx))) := hS3
  have hb3 : bb < w3.heap.size := Nat.lt_of_lt_of_le hblt hS3.fr.size
  have c0_3 := hS3.cell H0.out hbb c0
  have c2_3 := hS3.cell H0.out hbb c2
  have hgl3 : g < w3.heap.size := Nat.lt_of_lt_of_le hgl hS3.fr.size
  have k4_3 := hS3.cell H0.out hbb k4
  have d0_3 := hS3.cell H0.out hgb d0
  have d1_3 := hS3.cell H0.out hgb d1
  have d2_3 := hS3.cell H0.out hgb d2
  have HE3 : Hid (EnT w3 base l bp s3) := HE0.out.stp H0.out hS3
  have t2_3 := hu3 _ t2_2
  have t3_3 := hq3
  clear hS3 hu3 hq3
  go_wp2_with fail
  refine (same_at H0.out HS3.out t2_3 t3_3 (by omega)).mono ?_
  rintro e w4 ⟨rfl, s4, hS4, hu4⟩
  have HS4 : Hid (Stp y base w s w4 s4 (0 + (M * (ua) + (va + 1)) + (M * ub + vb) + (M * ux + vx))) := hS4
  have hb4 : bb < w4.heap.size := Nat.lt_of_lt_of_le hblt hS4.fr.size
  have c0_4 := hS4.cell H0.out hbb c0
  have c2_4 := hS4.cell H0.out hbb c2
  have hgl4 : g < w4.heap.size := Nat.lt_of_lt_of_le hgl hS4.fr.size
  have k4_4 := hS4.cell H0.out hbb k4
  have d0_4 := hS4.cell H0.out hgb d0
  have d1_4 := hS4.cell H0.out hgb d1
  have d2_4 := hS4.cell H0.out hgb d2
  have HE4 : Hid (EnT w4 base l bp s4) := HE0.out.stp H0.out hS4
  have t2_4 := hu4 _ t2_3
  have t3_4 := hu4 _ t3_3
  clear hS4 hu4
  go_wp2_with fail
  go_ret
  exact ⟨s4, q2, rfl, HS4.out.le (by omega), t2_4⟩
end
end Go.Proofs.YtnbhnjokpcdnnaaGreatDoor

namespace Go.Proofs.YtnbhnjokpcdnnaaGreatDoor
open Go.RowKit

section
variable {y base K : Nat} {w : World} {s : TyS} {l : List EN} {bp : Nat → Value} {ns : List (List UInt8)} {f d M N c : Nat} {k nm ow : List UInt8} {z : Int} {p : Value} {pats : List Code}

set_option maxHeartbeats 3200000 in
set_option maxRecDepth 100000 in
theorem ctl_callcc (IH : ExOk y base K) (hk : k = [99, 97, 108, 108, 99, 99]) (h0 : Cy y base w s) (hE : EnT w base l bp s) (hO : EO f d M l ns) {a : Code} {ua va : Nat} (hCa : Cst N ns a ua va) (hda : d + wt a < K) (hN : Nd w (fun b => base ≤ b) (nd k z nm ow [a] pats) p) (hc : M * ua + va + 4 ≤ c) (hp : pot w s + (c : Int) ≤ 9223372036854775807) :
    Calls Tryz.prog 51 #[ptrV y, p, bp 0] w (TyR y base w s c) := by
  obtain ⟨bb, rfl, hbX, hblt⟩ := hN.ptr
  obtain ⟨o0, ho⟩ := hE.env.ptr
  obtain ⟨c0, c2, -⟩ := hN.cells
  have qq0 : (k == [116, 114, 121]) = false := by subst hk; decide
  have qq1 : (k == [109, 97, 116, 99, 104]) = false := by subst hk; decide
  have qq2 : (k == [99, 97, 108, 108, 99, 99]) = true := by subst hk; decide
  clear hk
  rw [ho]
  have HS0 : Hid (Stp y base w s w s 0) := Stp.refl h0
  have H0 : Hid (Cy y base w s) := h0
  have HE0 : Hid (EnT w base l bp s) := hE
  obtain ⟨g, gc, hbb, hgb, k4, hgc, hsub⟩ := hN.subc (by simp)
  have hgl : g < w.heap.size := by have := h0.size; omega
  obtain ⟨p0, d0, n0⟩ := hsub 0 (by simp)
  have HN0 : Hid (Nd w (fun b => base ≤ b) a p0) := n0
  clear n0
  simp only [List.length_cons, List.length_nil, Nat.zero_add, Nat.reduceAdd] at k4
  simp only [List.length_cons, List.length_nil, Nat.zero_add, Nat.reduceAdd] at hgc
  have HSUB : Hid _ := hsub
  clear hsub
  have HN : Hid (Nd w (fun b => base ≤ b) (nd k z nm ow [a] pats) (.pointer (some ⟨bb, 0, none⟩))) := hN
  clear h0 hE hN
  simp only [ptrV]
  go_enter Tryz.func51, Tryz.ntmps51
  go_wp2_with fail
  refine (kind0_at (k := []) H0.out HS0.out (by decide) (by decide)).mono ?_
  rintro e w1 ⟨s1, q1, rfl, hS1, hq1, hu1⟩
  have HS1 : Hid (Stp y base w s w1 s1 (0 + 1)) := hS1
  have hb1 : bb < w1.heap.size := Nat.lt_of_lt_of_le hblt hS1.fr.size
  have c0_1 := hS1.cell H0.out hbb c0
  have c2_1 := hS1.cell H0.out hbb c2
  have hgl1 : g < w1.heap.size := Nat.lt_of_lt_of_le hgl hS1.fr.size
  have k4_1 := hS1.cell H0.out hbb k4
  have d0_1 := hS1.cell H0.out hgb d0
  have HE1 : Hid (EnT w1 base l bp s1) := HE0.out.stp H0.out hS1
  have t1_1 := hq1
  clear hS1 hu1 hq1
  go_wp2_with fail
  refine (kind0_at (k := []) H0.out HS1.out (by decide) (by decide)).mono ?_
  rintro e w2 ⟨s2, q2, rfl, hS2, hq2, hu2⟩
  have HS2 : Hid (Stp y base w s w2 s2 (0 + 1 + 1)) := hS2
  have hb2 : bb < w2.heap.size := Nat.lt_of_lt_of_le hblt hS2.fr.size
  have c0_2 := hS2.cell H0.out hbb c0
  have c2_2 := hS2.cell H0.out hbb c2
  have hgl2 : g < w2.heap.size := Nat.lt_of_lt_of_le hgl hS2.fr.size
  have k4_2 := hS2.cell H0.out hbb k4
  have d0_2 := hS2.cell H0.out hgb d0
  have HE2 : Hid (EnT w2 base l bp s2) := HE0.out.stp H0.out hS2
  have t1_2 := hu2 _ t1_1
  have t2_2 := hq2
  clear hS2 hu2 hq2
  go_wp2_with fail
  refine (kind1_at (k := [99, 111, 110, 116]) H0.out HS2.out t2_2 (by decide) (by decide)).mono ?_
  rintro e w3 ⟨s3, q3, rfl, hS3, hq3, hu3⟩
  have HS3 : Hid (Stp y base w s w3 s3 (0 + 1 + 1 + 1)) := hS3
  have hb3 : bb < w3.heap.size := Nat.lt_of_lt_of_le hblt hS3.fr.size
  have c0_3 := hS3.cell H0.out hbb c0
  have c2_3 := hS3.cell H0.out hbb c2
  have hgl3 : g < w3.heap.size := Nat.lt_of_lt_of_le hgl hS3.fr.size
  have k4_3 := hS3.cell H0.out hbb k4
  have d0_3 := hS3.cell H0.out hgb d0
  have HE3 : Hid (EnT w3 base l bp s3) := HE0.out.stp H0.out hS3
  have t1_3 := hu3 _ t1_2
  have t2_3 := hu3 _ t2_2
  have t3_3 := hq3
  clear hS3 hu3 hq3
  go_wp2_with fail
  refine (exp_at IH H0.out HS3.out HE3.out ho hO hCa hda (HS3.out.nd H0.out HN0.out) hp (by omega)).mono ?_
  rintro e w4 ⟨s4, q4, rfl, hS4, hq4, hu4⟩
  have HS4 : Hid (Stp y base w s w4 s4 (0 + 1 + 1 + 1 + (M * ua + va))) := hS4
  have hb4 : bb < w4.heap.size := Nat.lt_of_lt_of_le hblt hS4.fr.size
  have c0_4 := hS4.cell H0.out hbb c0
  have c2_4 := hS4.cell H0.out hbb c2
  have hgl4 : g < w4.heap.size := Nat.lt_of_lt_of_le hgl hS4.fr.size
  have k4_4 := hS4.cell H0.out hbb k4
  have d0_4 := hS4.cell H0.out hgb d0
  have HE4 : Hid (EnT w4 base l bp s4) := HE0.out.stp H0.out hS4
  have t1_4 := hu4 _ t1_3
  have t2_4 := hu4 _ t2_3
  have t3_4 := hu4 _ t3_3
  have t4_4 := hq4
  clear hS4 hu4 hq4
  go_wp2_with fail
  refine (kind2_at (k := [102, 117, 110]) H0.out HS4.out t3_4 t2_4 (by decide) (by decide)).mono ?_
  rintro e w5 ⟨s5, q5, rfl, hS5, hq5, hu5⟩
  have HS5 : Hid (Stp y base w s w5 s5 (0 + 1 + 1 + 1 + (M * ua + va) + 1)) := hS5
  have hb5 : bb < w5.heap.size := Nat.lt_of_lt_of_le hblt hS5.fr.size
  have c0_5 := hS5.cell H0.out hbb c0
  have c2_5 := hS5.cell H0.out hbb c2
  have hgl5 : g < w5.heap.size := Nat.lt_of_lt_of_le hgl hS5.fr.size
  have k4_5 := hS5.cell H0.out hbb k4
  have d0_5 := hS5.cell H0.out hgb d0
  have HE5 : Hid (EnT w5 base l bp s5) := HE0.out.stp H0.out hS5
  have t1_5 := hu5 _ t1_4
  have t2_5 := hu5 _ t2_4
  have t3_5 := hu5 _ t3_4
  have t4_5 := hu5 _ t4_4
  have t5_5 := hq5
  clear hS5 hu5 hq5
  go_wp2_with fail
  refine (same_at H0.out HS5.out t4_5 t5_5 (by omega)).mono ?_
  rintro e w6 ⟨rfl, s6, hS6, hu6⟩
  have HS6 : Hid (Stp y base w s w6 s6 (0 + 1 + 1 + 1 + (M * ua + va) + 1)) := hS6
  have hb6 : bb < w6.heap.size := Nat.lt_of_lt_of_le hblt hS6.fr.size
  have c0_6 := hS6.cell H0.out hbb c0
  have c2_6 := hS6.cell H0.out hbb c2
  have hgl6 : g < w6.heap.size := Nat.lt_of_lt_of_le hgl hS6.fr.size
  have k4_6 := hS6.cell H0.out hbb k4
  have d0_6 := hS6.cell H0.out hgb d0
  have HE6 : Hid (EnT w6 base l bp s6) := HE0.out.stp H0.out hS6
  have t1_6 := hu6 _ t1_5
  have t2_6 := hu6 _ t2_5
  have t3_6 := hu6 _ t3_5
  have t4_6 := hu6 _ t4_5
  have t5_6 := hu6 _ t5_5
  clear hS6 hu6
  go_wp2_with fail
  go_ret
  exact ⟨s6, q2, rfl, HS6.out.le (by omega), t2_6⟩

set_option maxHeartbeats 3200000 in
set_option maxRecDepth 100000 in
theorem ctl_throw (IH : ExOk y base K) (hk : k = [116, 104, 114, 111, 119]) (h0 : Cy y base w s) (hE : EnT w base l bp s) (hO : EO f d M l ns) {a : Code} {ua va : Nat} (hCa : Cst N ns a ua va) (hda : d + wt a < K) {b : Code} {ub vb : Nat} (hCb : Cst N ns b ub vb) (hdb : d + wt b < K) (hN : Nd w (fun b => base ≤ b) (nd k z nm ow [a, b] pats) p) (hc : M * ua + va + (M * ub + vb) + 3 ≤ c) (hp : pot w s + (c : Int) ≤ 9223372036854775807) :
    Calls Tryz.prog 51 #[ptrV y, p, bp 0] w (TyR y base w s c) := by
  obtain ⟨bb, rfl, hbX, hblt⟩ := hN.ptr
  obtain ⟨o0, ho⟩ := hE.env.ptr
  obtain ⟨c0, c2, -⟩ := hN.cells
  have qq0 : (k == [116, 114, 121]) = false := by subst hk; decide
  have qq1 : (k == [109, 97, 116, 99, 104]) = false := by subst hk; decide
  have qq2 : (k == [99, 97, 108, 108, 99, 99]) = false := by subst hk; decide
  clear hk
  rw [ho]
  have HS0 : Hid (Stp y base w s w s 0) := Stp.refl h0
  have H0 : Hid (Cy y base w s) := h0
  have HE0 : Hid (EnT w base l bp s) := hE
  obtain ⟨g, gc, hbb, hgb, k4, hgc, hsub⟩ := hN.subc (by simp)
  have hgl : g < w.heap.size := by have := h0.size; omega
  obtain ⟨p0, d0, n0⟩ := hsub 0 (by simp)
  have HN0 : Hid (Nd w (fun b => base ≤ b) a p0) := n0
  clear n0
  obtain ⟨p1, d1, n1⟩ := hsub 1 (by simp)
  have HN1 : Hid (Nd w (fun b => base ≤ b) b p1) := n1
  clear n1
  simp only [List.length_cons, List.length_nil, Nat.zero_add, Nat.reduceAdd] at k4
  simp only [List.length_cons, List.length_nil, Nat.zero_add, Nat.reduceAdd] at hgc
  have HSUB : Hid _ := hsub
  clear hsub
  have HN : Hid (Nd w (fun b => base ≤ b) (nd k z nm ow [a, b] pats) (.pointer (some ⟨bb, 0, none⟩))) := hN
  clear h0 hE hN
  simp only [ptrV]
  go_enter Tryz.func51, Tryz.ntmps51
  go_wp2_with fail
  refine (kind0_at (k := []) H0.out HS0.out (by decide) (by decide)).mono ?_
  rintro e w1 ⟨s1, q1, rfl, hS1, hq1, hu1⟩
  have HS1 : Hid (Stp y base w s w1 s1 (0 + 1)) := hS1
  have hb1 : bb < w1.heap.size := Nat.lt_of_lt_of_le hblt hS1.fr.size
  have c0_1 := hS1.cell H0.out hbb c0
  have c2_1 := hS1.cell H0.out hbb c2
  have hgl1 : g < w1.heap.size := Nat.lt_of_lt_of_le hgl hS1.fr.size
  have k4_1 := hS1.cell H0.out hbb k4
  have d0_1 := hS1.cell H0.out hgb d0
  have d1_1 := hS1.cell H0.out hgb d1
  have HE1 : Hid (EnT w1 base l bp s1) := HE0.out.stp H0.out hS1
  have t1_1 := hq1
  clear hS1 hu1 hq1
  go_wp2_with fail
  refine (kind0_at (k := []) H0.out HS1.out (by decide) (by decide)).mono ?_
  rintro e w2 ⟨s2, q2, rfl, hS2, hq2, hu2⟩
  have HS2 : Hid (Stp y base w s w2 s2 (0 + 1 + 1)) := hS2
  have hb2 : bb < w2.heap.size := Nat.lt_of_lt_of_le hblt hS2.fr.size
  have c0_2 := hS2.cell H0.out hbb c0
  have c2_2 := hS2.cell H0.out hbb c2
  have hgl2 : g < w2.heap.size := Nat.lt_of_lt_of_le hgl hS2.fr.size
  have k4_2 := hS2.cell H0.out hbb k4
  have d0_2 := hS2.cell H0.out hgb d0
  have d1_2 := hS2.cell H0.out hgb d1
  have HE2 : Hid (EnT w2 base l bp s2) := HE0.out.stp H0.out hS2
  have t1_2 := hu2 _ t1_1
  have t2_2 := hq2
  clear hS2 hu2 hq2
  go_wp2_with fail
  refine (kind1_at (k := [99, 111, 110, 116]) H0.out HS2.out t2_2 (by decide) (by decide)).mono ?_
  rintro e w3 ⟨s3, q3, rfl, hS3, hq3, hu3⟩
  have HS3 : Hid (Stp y base w s w3 s3 (0 + 1 + 1 + 1)) := hS3
  have hb3 : bb < w3.heap.size := Nat.lt_of_lt_of_le hblt hS3.fr.size
  have c0_3 := hS3.cell H0.out hbb c0
  have c2_3 := hS3.cell H0.out hbb c2
  have hgl3 : g < w3.heap.size := Nat.lt_of_lt_of_le hgl hS3.fr.size
  have k4_3 := hS3.cell H0.out hbb k4
  have d0_3 := hS3.cell H0.out hgb d0
  have d1_3 := hS3.cell H0.out hgb d1
  have HE3 : Hid (EnT w3 base l bp s3) := HE0.out.stp H0.out hS3
  have t1_3 := hu3 _ t1_2
  have t2_3 := hu3 _ t2_2
  have t3_3 := hq3
  clear hS3 hu3 hq3
  go_wp2_with fail
  refine (exp_at IH H0.out HS3.out HE3.out ho hO hCa hda (HS3.out.nd H0.out HN0.out) hp (by omega)).mono ?_
  rintro e w4 ⟨s4, q4, rfl, hS4, hq4, hu4⟩
  have HS4 : Hid (Stp y base w s w4 s4 (0 + 1 + 1 + 1 + (M * ua + va))) := hS4
  have hb4 : bb < w4.heap.size := Nat.lt_of_lt_of_le hblt hS4.fr.size
  have c0_4 := hS4.cell H0.out hbb c0
  have c2_4 := hS4.cell H0.out hbb c2
  have hgl4 : g < w4.heap.size := Nat.lt_of_lt_of_le hgl hS4.fr.size
  have k4_4 := hS4.cell H0.out hbb k4
  have d0_4 := hS4.cell H0.out hgb d0
  have d1_4 := hS4.cell H0.out hgb d1
  have HE4 : Hid (EnT w4 base l bp s4) := HE0.out.stp H0.out hS4
  have t1_4 := hu4 _ t1_3
  have t2_4 := hu4 _ t2_3
  have t3_4 := hu4 _ t3_3
  have t4_4 := hq4
  clear hS4 hu4 hq4
  go_wp2_with fail
  refine (same_at H0.out HS4.out t4_4 t3_4 (by omega)).mono ?_
  rintro e w5 ⟨rfl, s5, hS5, hu5⟩
  have HS5 : Hid (Stp y base w s w5 s5 (0 + 1 + 1 + 1 + (M * ua + va))) := hS5
  have hb5 : bb < w5.heap.size := Nat.lt_of_lt_of_le hblt hS5.fr.size
  have c0_5 := hS5.cell H0.out hbb c0
  have c2_5 := hS5.cell H0.out hbb c2
  have hgl5 : g < w5.heap.size := Nat.lt_of_lt_of_le hgl hS5.fr.size
  have k4_5 := hS5.cell H0.out hbb k4
  have d0_5 := hS5.cell H0.out hgb d0
  have d1_5 := hS5.cell H0.out hgb d1
  have HE5 : Hid (EnT w5 base l bp s5) := HE0.out.stp H0.out hS5
  have t1_5 := hu5 _ t1_4
  have t2_5 := hu5 _ t2_4
  have t3_5 := hu5 _ t3_4
  have t4_5 := hu5 _ t4_4
  clear hS5 hu5
  go_wp2_with fail
  refine (exp_at IH H0.out HS5.out HE5.out ho hO hCb hdb (HS5.out.nd H0.out HN1.out) hp (by omega)).mono ?_
  rintro e w6 ⟨s6, q6, rfl, hS6, hq6, hu6⟩
  have HS6 : Hid (Stp y base w s w6 s6 (0 + 1 + 1 + 1 + (M * ua + va) + (M * ub + vb))) := hS6
  have hb6 : bb < w6.heap.size := Nat.lt_of_lt_of_le hblt hS6.fr.size
  have c0_6 := hS6.cell H0.out hbb c0
  have c2_6 := hS6.cell H0.out hbb c2
  have hgl6 : g < w6.heap.size := Nat.lt_of_lt_of_le hgl hS6.fr.size
  have k4_6 := hS6.cell H0.out hbb k4
  have d0_6 := hS6.cell H0.out hgb d0
  have d1_6 := hS6.cell H0.out hgb d1
  have HE6 : Hid (EnT w6 base l bp s6) := HE0.out.stp H0.out hS6
  have t1_6 := hu6 _ t1_5
  have t2_6 := hu6 _ t2_5
  have t3_6 := hu6 _ t3_5
  have t4_6 := hu6 _ t4_5
  have t6_6 := hq6
  clear hS6 hu6 hq6
  go_wp2_with fail
  refine (same_at H0.out HS6.out t6_6 t2_6 (by omega)).mono ?_
  rintro e w7 ⟨rfl, s7, hS7, hu7⟩
  have HS7 : Hid (Stp y base w s w7 s7 (0 + 1 + 1 + 1 + (M * ua + va) + (M * ub + vb))) := hS7
  have hb7 : bb < w7.heap.size := Nat.lt_of_lt_of_le hblt hS7.fr.size
  have c0_7 := hS7.cell H0.out hbb c0
  have c2_7 := hS7.cell H0.out hbb c2
  have hgl7 : g < w7.heap.size := Nat.lt_of_lt_of_le hgl hS7.fr.size
  have k4_7 := hS7.cell H0.out hbb k4
  have d0_7 := hS7.cell H0.out hgb d0
  have d1_7 := hS7.cell H0.out hgb d1
  have HE7 : Hid (EnT w7 base l bp s7) := HE0.out.stp H0.out hS7
  have t1_7 := hu7 _ t1_6
  have t2_7 := hu7 _ t2_6
  have t3_7 := hu7 _ t3_6
  have t4_7 := hu7 _ t4_6
  have t6_7 := hu7 _ t6_6
  clear hS7 hu7
  go_wp2_with fail
  go_ret
  exact ⟨s7, q1, rfl, HS7.out.le (by omega), t1_7⟩
end
end Go.Proofs.YtnbhnjokpcdnnaaGreatDoor

namespace Go.Proofs.YtnbhnjokpcdnnaaGreatDoor
open Go.RowKit

section
variable {y base K : Nat} {w : World} {s : TyS} {l : List EN} {bp : Nat → Value} {ns : List (List UInt8)} {f d M N c : Nat} {k nm ow : List UInt8} {z : Int} {p : Value} {pats : List Code}

set_option maxHeartbeats 3200000 in
set_option maxRecDepth 100000 in
theorem ctl_try (IH : ExOk y base K) (hk : k = [116, 114, 121]) (h0 : Cy y base w s) (hE : EnT w base l bp s) (hO : EO f d M l ns) {a : Code} {ua va : Nat} (hCa : Cst N ns a ua va) (hda : d + wt a < K) {b : Code} {ub vb : Nat} (hCb : Cst N (nm :: ns) b ub vb) (hdb : d + wt b < K) (hN : Nd w (fun b => base ≤ b) (nd k z nm ow [a, b] pats) p) (hc : M * ua + va + (M * ub + vb) + 2 ≤ c) (hp : pot w s + (c : Int) ≤ 9223372036854775807) :
    Calls Tryz.prog 51 #[ptrV y, p, bp 0] w (TyR y base w s c) := by
  obtain ⟨bb, rfl, hbX, hblt⟩ := hN.ptr
  obtain ⟨o0, ho⟩ := hE.env.ptr
  obtain ⟨c0, c2, -⟩ := hN.cells
  have qq0 : (k == [116, 114, 121]) = true := by subst hk; decide
  clear hk
  rw [ho]
  have HS0 : Hid (Stp y base w s w s 0) := Stp.refl h0
  have H0 : Hid (Cy y base w s) := h0
  have HE0 : Hid (EnT w base l bp s) := hE
  obtain ⟨g, gc, hbb, hgb, k4, hgc, hsub⟩ := hN.subc (by simp)
  have hgl : g < w.heap.size := by have := h0.size; omega
  obtain ⟨p0, d0, n0⟩ := hsub 0 (by simp)
  have HN0 : Hid (Nd w (fun b => base ≤ b) a p0) := n0
  clear n0
  obtain ⟨p1, d1, n1⟩ := hsub 1 (by simp)
  have HN1 : Hid (Nd w (fun b => base ≤ b) b p1) := n1
  clear n1
  simp only [List.length_cons, List.length_nil, Nat.zero_add, Nat.reduceAdd] at k4
  simp only [List.length_cons, List.length_nil, Nat.zero_add, Nat.reduceAdd] at hgc
  have HSUB : Hid _ := hsub
  clear hsub
  have HN : Hid (Nd w (fun b => base ≤ b) (nd k z nm ow [a, b] pats) (.pointer (some ⟨bb, 0, none⟩))) := hN
  clear h0 hE hN
  simp only [ptrV]
  go_enter Tryz.func51, Tryz.ntmps51
  go_wp2_with fail
  refine (kind0_at (k := []) H0.out HS0.out (by decide) (by decide)).mono ?_
  rintro e w1 ⟨s1, q1, rfl, hS1, hq1, hu1⟩
  have HS1 : Hid (Stp y base w s w1 s1 (0 + 1)) := hS1
  have hb1 : bb < w1.heap.size := Nat.lt_of_lt_of_le hblt hS1.fr.size
  have c0_1 := hS1.cell H0.out hbb c0
  have c2_1 := hS1.cell H0.out hbb c2
  have hgl1 : g < w1.heap.size := Nat.lt_of_lt_of_le hgl hS1.fr.size
  have k4_1 := hS1.cell H0.out hbb k4
  have d0_1 := hS1.cell H0.out hgb d0
  have d1_1 := hS1.cell H0.out hgb d1
  have HE1 : Hid (EnT w1 base l bp s1) := HE0.out.stp H0.out hS1
  have t1_1 := hq1
  clear hS1 hu1 hq1
  go_wp2_with fail
  refine (exp_at IH H0.out HS1.out HE1.out ho hO hCa hda (HS1.out.nd H0.out HN0.out) hp (by omega)).mono ?_
  rintro e w2 ⟨s2, q2, rfl, hS2, hq2, hu2⟩
  have HS2 : Hid (Stp y base w s w2 s2 (0 + 1 + (M * ua + va))) := hS2
  have hb2 : bb < w2.heap.size := Nat.lt_of_lt_of_le hblt hS2.fr.size
  have c0_2 := hS2.cell H0.out hbb c0
  have c2_2 := hS2.cell H0.out hbb c2
  have hgl2 : g < w2.heap.size := Nat.lt_of_lt_of_le hgl hS2.fr.size
  have k4_2 := hS2.cell H0.out hbb k4
  have d0_2 := hS2.cell H0.out hgb d0
  have d1_2 := hS2.cell H0.out hgb d1
  have HE2 : Hid (EnT w2 base l bp s2) := HE0.out.stp H0.out hS2
  have t1_2 := hu2 _ t1_1
  have t2_2 := hq2
  clear hS2 hu2 hq2
  go_wp2_with fail
  refine (kind0_at (k := [105, 110, 116]) H0.out HS2.out (by decide) (by decide)).mono ?_
  rintro e w3 ⟨s3, q3, rfl, hS3, hq3, hu3⟩
  have HS3 : Hid (Stp y base w s w3 s3 (0 + 1 + (M * ua + va) + 1)) := hS3
  have hb3 : bb < w3.heap.size := Nat.lt_of_lt_of_le hblt hS3.fr.size
  have c0_3 := hS3.cell H0.out hbb c0
  have c2_3 := hS3.cell H0.out hbb c2
  have hgl3 : g < w3.heap.size := Nat.lt_of_lt_of_le hgl hS3.fr.size
  have k4_3 := hS3.cell H0.out hbb k4
  have d0_3 := hS3.cell H0.out hgb d0
  have d1_3 := hS3.cell H0.out hgb d1
  have HE3 : Hid (EnT w3 base l bp s3) := HE0.out.stp H0.out hS3
  have t1_3 := hu3 _ t1_2
  have t2_3 := hu3 _ t2_2
  have t3_3 := hq3
  clear hS3 hu3 hq3
  go_wp2_with fail
  have hz := HS3.out.cy.size
  have HH : Hid _ := exp_in (c1 := 0 + 1 + (M * ua + va) + 1) IH H0.out HS3.out HE3.out ho t3_3 hO hCb hdb (HS3.out.nd H0.out HN1.out) hp (by omega)
  go_region_law (rw [if_pos (by simp [Region.wanted])]; unfold Oper.wp; go_simp; go_at_call 24; refine (HH.out _ _ (by repeat (first | exact Fr.refl _ _ | (refine Fr.setCell ?_ (by first | exact .inl rfl | exact .inr (Nat.le_refl _) | (right; simp; omega)) _) | refine Fr.drewN ?_ _ | refine Fr.drew ?_ | refine Fr.alloc ?_ _)) hz (by first | exact (MapKept.heap_alloc w3 _).1 | exact (MapKept.heap_alloc w3.drew _).1)).mono ?_; rintro e w4 ⟨s4, q4, rfl, hS4, hq4, hu4⟩)
  all_goals
    have HS4 : Hid (Stp y base w s w4 s4 (0 + 1 + (M * ua + va) + 1 + (M * ub + vb))) := hS4
    have hb4 : bb < w4.heap.size := Nat.lt_of_lt_of_le hblt hS4.fr.size
    have c0_4 := hS4.cell H0.out hbb c0
    have c2_4 := hS4.cell H0.out hbb c2
    have hgl4 : g < w4.heap.size := Nat.lt_of_lt_of_le hgl hS4.fr.size
    have k4_4 := hS4.cell H0.out hbb k4
    have d0_4 := hS4.cell H0.out hgb d0
    have d1_4 := hS4.cell H0.out hgb d1
    have HE4 : Hid (EnT w4 base l bp s4) := HE0.out.stp H0.out hS4
    have t1_4 := hu4 _ t1_3
    have t2_4 := hu4 _ t2_3
    have t3_4 := hu4 _ t3_3
    have t4_4 := hq4
    clear hS4 hu4 hq4
    go_wp2_with fail
    refine (same_at H0.out HS4.out t2_4 t4_4 (by omega)).mono ?_
    rintro e w5 ⟨rfl, s5, hS5, hu5⟩
    have HS5 : Hid (Stp y base w s w5 s5 (0 + 1 + (M * ua + va) + 1 + (M * ub + vb))) := hS5
    have hb5 : bb < w5.heap.size := Nat.lt_of_lt_of_le hblt hS5.fr.size
    have c0_5 := hS5.cell H0.out hbb c0
    have c2_5 := hS5.cell H0.out hbb c2
    have hgl5 : g < w5.heap.size := Nat.lt_of_lt_of_le hgl hS5.fr.size
    have k4_5 := hS5.cell H0.out hbb k4
    have d0_5 := hS5.cell H0.out hgb d0
    have d1_5 := hS5.cell H0.out hgb d1
    have HE5 : Hid (EnT w5 base l bp s5) := HE0.out.stp H0.out hS5
    have t1_5 := hu5 _ t1_4
    have t2_5 := hu5 _ t2_4
    have t3_5 := hu5 _ t3_4
    have t4_5 := hu5 _ t4_4
    clear hS5 hu5
    go_wp2_with fail
    go_ret
    exact ⟨s5, q2, rfl, HS5.out.le (by omega), t2_5⟩
end
end Go.Proofs.YtnbhnjokpcdnnaaGreatDoor

namespace Go.Proofs.YtnbhnjokpcdnnaaGreatDoor
open Go.RowKit

section
variable {y base K : Nat} {w : World} {s : TyS} {l : List EN} {bp : Nat → Value} {ns : List (List UInt8)} {f d M N c : Nat} {k nm ow : List UInt8} {z : Int} {p : Value} {pats : List Code}

theorem function_at (IH : ExOk y base K) {w1 : World} {s1 : TyS} {c1 : Nat} {b : Code} {ub vb : Nat} {o0 : Option Addr} (h0 : Cy y base w s) (h1 : Stp y base w s w1 s1 c1) (hE : EnT w1 base l bp s1) (ho : bp 0 = .pointer o0) (hO : EO f d M l ns) (hC : Cst N (nm :: ns) b ub vb) (hd : d + wt b < K) (hN : Nd w1 (fun b => base ≤ b) (nd k z nm ow [b] pats) p) (hp : pot w s + (c : Int) ≤ 9223372036854775807) (hc : c1 + (M * ub + vb + 2) ≤ c) :
    Calls Tryz.prog 46 #[.pointer (some ⟨y, 0, none⟩), p, .pointer o0] w1 (Ty1 y base w s s1 (c1 + (M * ub + vb + 2))) := by
  have q2 := h1.pot
  rw [← ho]
  exact (function_ref (c := M * ub + vb + 2) IH h1.cy hE hO hC hd hN (Nat.le_refl _) (by omega)).mono fun e w' h => Ty1.of h0 h1 (Nat.le_refl _) h

set_option maxHeartbeats 3200000 in
set_option maxRecDepth 100000 in
theorem exp_fn (IH : ExOk y base K) (hk : k = [102, 110]) (h0 : Cy y base w s) (hE : EnT w base l bp s) (hO : EO f d M l ns) (hbad : s.bad = false) {a : Code} {ua va : Nat} (hCa : Cst N (nm :: ns) a ua va) (hda : d + wt a < K) (hN : Nd w (fun b => base ≤ b) (nd k z nm ow [a] pats) p) (hc : M * ua + va + 2 ≤ c) (hp : pot w s + (c : Int) ≤ 9223372036854775807) :
    Calls Tryz.prog 24 #[ptrV y, p, bp 0] w (TyR y base w s c) := by
  obtain ⟨bb, rfl, hbX, hblt⟩ := hN.ptr
  obtain ⟨o0, ho⟩ := hE.env.ptr
  obtain ⟨hyl, hy0, -, -⟩ := h0.ty.cells
  rw [hbad] at hy0
  obtain ⟨c0, c2, -⟩ := hN.cells
  have qq0 : (k == [110, 117, 109]) = false := by subst hk; decide
  have qq1 : (k == [114, 101, 97, 100]) = false := by subst hk; decide
  have qq2 : (k == [98, 111, 111, 108]) = false := by subst hk; decide
  have qq3 : (k == [110, 105, 108]) = false := by subst hk; decide
  have qq4 : (k == [118, 97, 114]) = false := by subst hk; decide
  have qq5 : (k == [102, 110]) = true := by subst hk; decide
  clear hk
  rw [ho]
  have HS0 : Hid (Stp y base w s w s 0) := Stp.refl h0
  have H0 : Hid (Cy y base w s) := h0
  have HE0 : Hid (EnT w base l bp s) := hE
  obtain ⟨g, gc, hbb, hgb, k4, hgc, hsub⟩ := hN.subc (by simp)
  have hgl : g < w.heap.size := by have := h0.size; omega
  obtain ⟨p0, d0, n0⟩ := hsub 0 (by simp)
  have HN0 : Hid (Nd w (fun b => base ≤ b) a p0) := n0
  clear n0
  simp only [List.length_cons, List.length_nil, Nat.zero_add, Nat.reduceAdd] at k4
  simp only [List.length_cons, List.length_nil, Nat.zero_add, Nat.reduceAdd] at hgc
  have HSUB : Hid _ := hsub
  clear hsub
  have HN : Hid (Nd w (fun b => base ≤ b) (nd k z nm ow [a] pats) (.pointer (some ⟨bb, 0, none⟩))) := hN
  clear h0 hE hN
  simp only [ptrV]
  go_enter Tryz.func24, Tryz.ntmps24
  go_wp2_with fail
  refine (function_at IH H0.out HS0.out HE0.out ho hO hCa hda HN.out hp (by omega)).mono ?_
  rintro e w1 ⟨s1, q1, rfl, hS1, hq1, hu1⟩
  have HS1 : Hid (Stp y base w s w1 s1 (0 + (M * ua + va + 2))) := hS1
  have hb1 : bb < w1.heap.size := Nat.lt_of_lt_of_le hblt hS1.fr.size
  have c0_1 := hS1.cell H0.out hbb c0
  have c2_1 := hS1.cell H0.out hbb c2
  have hgl1 : g < w1.heap.size := Nat.lt_of_lt_of_le hgl hS1.fr.size
  have k4_1 := hS1.cell H0.out hbb k4
  have d0_1 := hS1.cell H0.out hgb d0
  have HE1 : Hid (EnT w1 base l bp s1) := HE0.out.stp H0.out hS1
  have t1_1 := hq1
  clear hS1 hu1 hq1
  go_wp2_with fail
  go_ret
  exact ⟨s1, q1, rfl, HS1.out.le (by omega), t1_1⟩
end
end Go.Proofs.YtnbhnjokpcdnnaaGreatDoor
