import Derived.Test.YtnbhnjokpcdnnaaGreatDoorQC6
set_option linter.unusedSimpArgs false
set_option linter.unusedVariables false

namespace Go.Proofs.YtnbhnjokpcdnnaaGreatDoor
open Go.RowKit

section
variable {y base K : Nat} {w : World} {s : TyS} {l : List EN} {bp : Nat → Value} {ns : List (List UInt8)} {f d M N c : Nat} {k nm ow : List UInt8} {z : Int} {p : Value} {pats : List Code}

set_option maxHeartbeats 3200000 in
set_option maxRecDepth 100000 in
theorem exp_let (IH : ExOk y base K) (hk : k = [108, 101, 116]) (h0 : Cy y base w s) (hE : EnT w base l bp s) (hO : EO f d M l ns) (hbad : s.bad = false) {a : Code} {ua va : Nat} (hCa : Cst N ns a ua va) (hda : d + wt a < K) {b : Code} {ub vb : Nat} (hCb : Cst N (nm :: ns) b ub vb) (hdb : d + wt b < K) (hV : isV N a = some false) (hN : Nd w (fun b => base ≤ b) (nd k z nm ow [a, b] pats) p) (hc : M * ua + va + (M * ub + vb) ≤ c) (hp : pot w s + (c : Int) ≤ 9223372036854775807) :
    Calls Tryz.prog 24 #[ptrV y, p, bp 0] w (TyR y base w s c) := by
  obtain ⟨bb, rfl, hbX, hblt⟩ := hN.ptr
  obtain ⟨o0, ho⟩ := hE.env.ptr
  obtain ⟨hyl, hy0, -, -⟩ := h0.ty.cells
  rw [hbad] at hy0
  obtain ⟨c0, c2, -⟩ := hN.cells
  have qq0 : (k == [110, 117, 109]) = false := by subst hk; decide
  have qq1 : (k == [114, 101, 97, 100]) = false := by subst hk; decide
  have qq2 : (k == [98, 111, 111, 108]) = false := by subst hk; decide
  have qq3 : (k == [110, 105, 108]) = false := by subst hk; decide
  have qq4 : (k == [118, 97, 114]) = false := by subst hk; decide
  have qq5 : (k == [102, 110]) = false := by subst hk; decide
  have qq6 : (k == [108, 101, 116]) = true := by subst hk; decide
  clear hk
  rw [ho]
  have HS0 : Hid (Stp y base w s w s 0) := Stp.refl h0
  have H0 : Hid (Cy y base w s) := h0
  have HE0 : Hid (EnT w base l bp s) := hE
  obtain ⟨g, gc, hbb, hgb, k4, hgc, hsub⟩ := hN.subc (by simp)
  have hgl : g < w.heap.size := by have := h0.size; omega
  obtain ⟨p0, d0, n0⟩ := hsub 0 (by simp)
  have HN0 : Hid (Nd w (fun b => base ≤ b) a p0) := n0
  clear n0
  obtain ⟨p1, d1, n1⟩ := hsub 1 (by simp)
  have HN1 : Hid (Nd w (fun b => base ≤ b) b p1) := n1
  clear n1
  simp only [List.length_cons, List.length_nil, Nat.zero_add, Nat.reduceAdd] at k4
  simp only [List.length_cons, List.length_nil, Nat.zero_add, Nat.reduceAdd] at hgc
  have HSUB : Hid _ := hsub
  clear hsub
  have HN : Hid (Nd w (fun b => base ≤ b) (nd k z nm ow [a, b] pats) (.pointer (some ⟨bb, 0, none⟩))) := hN
  clear h0 hE hN
  simp only [ptrV]
  go_enter Tryz.func24, Tryz.ntmps24
  go_wp2_with fail
  refine (exp_at IH H0.out HS0.out HE0.out ho hO hCa hda (HS0.out.nd H0.out HN0.out) hp (by omega)).mono ?_
  rintro e w1 ⟨s1, q1, rfl, hS1, hq1, hu1⟩
  have HS1 : Hid (Stp y base w s w1 s1 (0 + (M * ua + va))) := hS1
  have hb1 : bb < w1.heap.size := Nat.lt_of_lt_of_le hblt hS1.fr.size
  have c0_1 := hS1.cell H0.out hbb c0
  have c2_1 := hS1.cell H0.out hbb c2
  have hgl1 : g < w1.heap.size := Nat.lt_of_lt_of_le hgl hS1.fr.size
  have k4_1 := hS1.cell H0.out hbb k4
  have d0_1 := hS1.cell H0.out hgb d0
  have d1_1 := hS1.cell H0.out hgb d1
  have HE1 : Hid (EnT w1 base l bp s1) := HE0.out.stp H0.out hS1
  have t1_1 := hq1
  clear hS1 hu1 hq1
  have hz1 := HS1.out.cy.size
  have HH : Hid (_) := exp_bind (e := ⟨nm, some q1, none, [], 0⟩) IH H0.out HS1.out HE1.out ho (hO.plain nm q1) hCb hdb (HS1.out.nd H0.out HN1.out) hp (by omega)
  go_wp2_with fail
  refine (isValue_ref N hV (Cst.sh N _ _ _ _ hCa) (HS1.out.nd H0.out HN0.out)).mono ?_
  rintro e wx ⟨rfl, hwx⟩
  have hwx := hwx.symm
  subst hwx
  go_wp2_with fail
  refine (HH.out _ _ (by repeat (first | exact Fr.refl _ _ | (refine Fr.setCell ?_ (by first | exact .inl rfl | exact .inr (Nat.le_refl _) | (right; simp; omega)) _) | refine Fr.drewN ?_ _ | refine Fr.drew ?_ | refine Fr.alloc ?_ _)) hz1 (MapKept.heap_alloc w1 _).1 rfl (.inl ⟨rfl, rfl⟩) (by simp) (by simp; exact t1_1)).mono ?_
  rintro e w2 ⟨s2, q2, rfl, hS2, hq2, hu2⟩
  have HS2 : Hid (Stp y base w s w2 s2 (0 + (M * ua + va) + (M * ub + vb))) := hS2
  have hb2 : bb < w2.heap.size := Nat.lt_of_lt_of_le hblt hS2.fr.size
  have c0_2 := hS2.cell H0.out hbb c0
  have c2_2 := hS2.cell H0.out hbb c2
  have hgl2 : g < w2.heap.size := Nat.lt_of_lt_of_le hgl hS2.fr.size
  have k4_2 := hS2.cell H0.out hbb k4
  have d0_2 := hS2.cell H0.out hgb d0
  have d1_2 := hS2.cell H0.out hgb d1
  have HE2 : Hid (EnT w2 base l bp s2) := HE0.out.stp H0.out hS2
  have t1_2 := hu2 _ t1_1
  have t2_2 := hq2
  clear hS2 hu2 hq2
  go_wp2_with fail
  go_ret
  exact ⟨s2, q2, rfl, HS2.out.le (by omega), t2_2⟩
end
end Go.Proofs.YtnbhnjokpcdnnaaGreatDoor

namespace Go.Proofs.YtnbhnjokpcdnnaaGreatDoor
open Go.RowKit

section
variable {y base K : Nat} {w : World} {s : TyS} {l : List EN} {bp : Nat → Value} {ns : List (List UInt8)} {f d M N c : Nat} {k nm ow : List UInt8} {z : Int} {p : Value} {pats : List Code}

set_option maxHeartbeats 3200000 in
set_option maxRecDepth 100000 in
theorem exp_letv (IH : ExOk y base K) (hk : k = [108, 101, 116]) (h0 : Cy y base w s) (hE : EnT w base l bp s) (hO : EO f d M l ns) (hbad : s.bad = false) {a : Code} {ua va : Nat} (hCa : Cst N ns a ua va) (hda : d + wt a < K) {b : Code} {ub vb : Nat} (hCb : Cst N (nm :: ns) b ub vb) (hdb : d + wt b < K) (hV : isV N a = some true) (hdab : d + wt a + wt b < K) (hN : Nd w (fun b => base ≤ b) (nd k z nm ow [a, b] pats) p) (hc : M * ua + va + ((M * ua + va) * ub + vb) ≤ c) (hp : pot w s + (c : Int) ≤ 9223372036854775807) :
    Calls Tryz.prog 24 #[ptrV y, p, bp 0] w (TyR y base w s c) := by
  obtain ⟨bb, rfl, hbX, hblt⟩ := hN.ptr
  obtain ⟨o0, ho⟩ := hE.env.ptr
  obtain ⟨hyl, hy0, -, -⟩ := h0.ty.cells
  rw [hbad] at hy0
  obtain ⟨c0, c2, -⟩ := hN.cells
  have qq0 : (k == [110, 117, 109]) = false := by subst hk; decide
  have qq1 : (k == [114, 101, 97, 100]) = false := by subst hk; decide
  have qq2 : (k == [98, 111, 111, 108]) = false := by subst hk; decide
  have qq3 : (k == [110, 105, 108]) = false := by subst hk; decide
  have qq4 : (k == [118, 97, 114]) = false := by subst hk; decide
  have qq5 : (k == [102, 110]) = false := by subst hk; decide
  have qq6 : (k == [108, 101, 116]) = true := by subst hk; decide
  clear hk
  rw [ho]
  have HS0 : Hid (Stp y base w s w s 0) := Stp.refl h0
  have H0 : Hid (Cy y base w s) := h0
  have HE0 : Hid (EnT w base l bp s) := hE
  obtain ⟨g, gc, hbb, hgb, k4, hgc, hsub⟩ := hN.subc (by simp)
  have hgl : g < w.heap.size := by have := h0.size; omega
  obtain ⟨p0, d0, n0⟩ := hsub 0 (by simp)
  obtain ⟨pb0, hp0, -, -⟩ := n0.ptr
  subst hp0
  have HN0 : Hid (Nd w (fun b => base ≤ b) a _) := n0
  clear n0
  obtain ⟨p1, d1, n1⟩ := hsub 1 (by simp)
  have HN1 : Hid (Nd w (fun b => base ≤ b) b p1) := n1
  clear n1
  simp only [List.length_cons, List.length_nil, Nat.zero_add, Nat.reduceAdd] at k4
  simp only [List.length_cons, List.length_nil, Nat.zero_add, Nat.reduceAdd] at hgc
  have HSUB : Hid _ := hsub
  clear hsub
  have HN : Hid (Nd w (fun b => base ≤ b) (nd k z nm ow [a, b] pats) (.pointer (some ⟨bb, 0, none⟩))) := hN
  clear h0 hE hN
  simp only [ptrV]
  go_enter Tryz.func24, Tryz.ntmps24
  go_wp2_with fail
  refine (exp_at IH H0.out HS0.out HE0.out ho hO hCa hda (HS0.out.nd H0.out HN0.out) hp (by omega)).mono ?_
  rintro e w1 ⟨s1, q1, rfl, hS1, hq1, hu1⟩
  have HS1 : Hid (Stp y base w s w1 s1 (0 + (M * ua + va))) := hS1
  have hb1 : bb < w1.heap.size := Nat.lt_of_lt_of_le hblt hS1.fr.size
  have c0_1 := hS1.cell H0.out hbb c0
  have c2_1 := hS1.cell H0.out hbb c2
  have hgl1 : g < w1.heap.size := Nat.lt_of_lt_of_le hgl hS1.fr.size
  have k4_1 := hS1.cell H0.out hbb k4
  have d0_1 := hS1.cell H0.out hgb d0
  have d1_1 := hS1.cell H0.out hgb d1
  have HE1 : Hid (EnT w1 base l bp s1) := HE0.out.stp H0.out hS1
  have t1_1 := hq1
  clear hS1 hu1 hq1
  have hz1 := HS1.out.cy.size
  have HH : Hid (_) := exp_bind (e := ⟨nm, some q1, some a, [], 0⟩) IH H0.out HS1.out HE1.out ho (hO.val hCa nm (some q1)) hCb hdab (HS1.out.nd H0.out HN1.out) hp (by omega)
  go_wp2_with fail
  refine (isValue_ref N hV (Cst.sh N _ _ _ _ hCa) (HS1.out.nd H0.out HN0.out)).mono ?_
  rintro e wx ⟨rfl, hwx⟩
  have hwx := hwx.symm
  subst hwx
  go_wp2_with fail
  refine (HH.out _ _ (by repeat (first | exact Fr.refl _ _ | (refine Fr.setCell ?_ (by first | exact .inl rfl | exact .inr (Nat.le_refl _) | (right; simp; omega)) _) | refine Fr.drewN ?_ _ | refine Fr.drew ?_ | refine Fr.alloc ?_ _)) hz1 (MapKept.heap_alloc w1 _).1 ((HS1.out.nd H0.out HN0.out).fr (by repeat (first | exact Fr.refl _ _ | (refine Fr.setCell ?_ (by first | exact .inl rfl | exact .inr (Nat.le_refl _) | (right; simp; omega)) _) | refine Fr.drewN ?_ _ | refine Fr.drew ?_ | refine Fr.alloc ?_ _))) (.inl ⟨rfl, rfl⟩) (fun _ => ⟨Nat.zero_le _, ho.symm⟩) (by simp; exact t1_1)).mono ?_
  rintro e w2 ⟨s2, q2, rfl, hS2, hq2, hu2⟩
  have HS2 : Hid (Stp y base w s w2 s2 (0 + (M * ua + va) + ((M * ua + va) * ub + vb))) := hS2
  have hb2 : bb < w2.heap.size := Nat.lt_of_lt_of_le hblt hS2.fr.size
  have c0_2 := hS2.cell H0.out hbb c0
  have c2_2 := hS2.cell H0.out hbb c2
  have hgl2 : g < w2.heap.size := Nat.lt_of_lt_of_le hgl hS2.fr.size
  have k4_2 := hS2.cell H0.out hbb k4
  have d0_2 := hS2.cell H0.out hgb d0
  have d1_2 := hS2.cell H0.out hgb d1
  have HE2 : Hid (EnT w2 base l bp s2) := HE0.out.stp H0.out hS2
  have t1_2 := hu2 _ t1_1
  have t2_2 := hq2
  clear hS2 hu2 hq2
  go_wp2_with fail
  go_ret
  exact ⟨s2, q2, rfl, HS2.out.le (by omega), t2_2⟩
end
end Go.Proofs.YtnbhnjokpcdnnaaGreatDoor

namespace Go.Proofs.YtnbhnjokpcdnnaaGreatDoor
open Go.RowKit

section
variable {y base K : Nat} {w : World} {s : TyS} {l : List EN} {bp : Nat → Value} {ns : List (List UInt8)} {f d M N c : Nat} {k nm ow : List UInt8} {z : Int} {p : Value} {pats : List Code}

/-- What a pattern answers: its type, and the names in sight behind it. -/
def PaR (y base : Nat) (w : World) (s : TyS) (d M : Nat) (ns : List (List UInt8)) (c : Nat) (e : Ending) (w' : World) : Prop := ∃ s' q l' bp' f' o', e = .returned (.tuple #[.pointer (some ⟨q, 0, none⟩), .pointer o']) ∧ bp' 0 = .pointer o' ∧ Stp y base w s w' s' c ∧ tyB s'.m q ∧ EnT w' base l' bp' s' ∧ EO f' d M l' ns

def PaOk (y base n : Nat) : Prop := ∀ ⦃w : World⦄ ⦃s : TyS⦄ ⦃l : List EN⦄ ⦃bp : Nat → Value⦄ ⦃ns xs : List (List UInt8)⦄ ⦃f d M c : Nat⦄ ⦃q : Code⦄ ⦃p : Value⦄ ⦃o0 : Option Addr⦄, Cy y base w s → EnT w base l bp s → bp 0 = .pointer o0 → EO f d M l ns → Pt n q xs c → Nd w (fun b => base ≤ b) q p → pot w s + (c : Int) ≤ 9223372036854775807 →
  Calls Tryz.prog 76 #[.pointer (some ⟨y, 0, none⟩), p, .pointer o0] w (PaR y base w s d M (xs ++ ns) c)

theorem pat_end {w1 : World} {s1 : TyS} {c1 a : Nat} {o0 : Option Addr} (h0 : Cy y base w s) (h1 : Stp y base w s w1 s1 c1) (hE : EnT w1 base l bp s1) (ho : bp 0 = .pointer o0) (hO : EO f d M l ns) (ht : tyB s1.m a) (hc : c1 ≤ c) (w2 : World) (b' : Nat) (hF : Fr (fun _ => False) w1 w2) (hb : base ≤ b') (hblk : w2.heap[b']? = some (.cells #[.string (bs nm), .pointer (some ⟨a, 0, none⟩), .pointer none, .slice none 0 0, .pointer none, .pointer o0] 107 (0, 0))) :
    PaR y base w s d M (nm :: ns) c (.returned (.tuple #[.pointer (some ⟨a, 0, none⟩), .pointer (some ⟨b', 0, none⟩)])) w2 := by
  have hG := Stp.grow h1.cy hF
  have hE2 := hE.stp h1.cy hG
  have h2 := hE2.cons (e := ⟨nm, some a, none, [], 0⟩) hb (by rw [ho]; exact hblk) rfl (.inl ⟨rfl, rfl⟩) (by simp) (by simp; exact ht)
  exact ⟨s1, a, _, _, _, _, rfl, rfl, (h1.trans h0 hG).le (by omega), ht, h2, hO.plain nm a⟩

theorem pat_at {n : Nat} (IH : PaOk y base n) {w1 : World} {s1 : TyS} {c1 c2 : Nat} {q : Code} {xs : List (List UInt8)} {o0 : Option Addr} (h0 : Cy y base w s) (h1 : Stp y base w s w1 s1 c1) (hE : EnT w1 base l bp s1) (ho : bp 0 = .pointer o0) (hO : EO f d M l ns) (hP : Pt n q xs c2) (hN : Nd w1 (fun b => base ≤ b) q p) (hp : pot w s + (c : Int) ≤ 9223372036854775807) (hc : c1 + c2 ≤ c) :
    Calls Tryz.prog 76 #[.pointer (some ⟨y, 0, none⟩), p, .pointer o0] w1 fun e w' => ∃ s' q l' bp' f' o', e = .returned (.tuple #[.pointer (some ⟨q, 0, none⟩), .pointer o']) ∧ bp' 0 = .pointer o' ∧ Stp y base w s w' s' (c1 + c2) ∧ tyB s'.m q ∧ EnT w' base l' bp' s' ∧ EO f' d M l' (xs ++ ns) ∧ ∀ a, tyB s1.m a → tyB s'.m a := by
  have q2 := h1.pot
  refine (IH h1.cy hE ho hO hP hN (by omega)).mono ?_
  rintro e w' ⟨s', q, l', bp', f', o', rfl, h2, hS, hq, hE', hO'⟩
  exact ⟨s', q, l', bp', f', o', rfl, h2, h1.trans h0 hS, hq, hE', hO', hS.up⟩

set_option maxHeartbeats 3200000 in
set_option maxRecDepth 100000 in
theorem pat_num {n : Nat} {o0 : Option Addr} (IH : PaOk y base n) (hk : k = [110, 117, 109]) (h0 : Cy y base w s) (hE : EnT w base l bp s) (ho : bp 0 = .pointer o0) (hO : EO f d M l ns) (hN : Nd w (fun b => base ≤ b) (nd k z nm ow [] pats) p) (hc : 1 ≤ c) (hp : pot w s + (c : Int) ≤ 9223372036854775807) :
    Calls Tryz.prog 76 #[.pointer (some ⟨y, 0, none⟩), p, .pointer o0] w (PaR y base w s d M (([] : List (List UInt8)) ++ ns) c) := by
  obtain ⟨bb, rfl, hbX, hblt⟩ := hN.ptr
  obtain ⟨c0, c2, -⟩ := hN.cells
  have qq0 : (k == [118, 97, 114]) = false := by subst hk; decide
  have qq1 : (k == [110, 117, 109]) = true := by subst hk; decide
  clear hk
  have HS0 : Hid (Stp y base w s w s 0) := Stp.refl h0
  have H0 : Hid (Cy y base w s) := h0
  have HE0 : Hid (EnT w base l bp s) := hE
  have hbb : bb < base := by omega
  clear h0 hE hN
  go_enter Tryz.func76, Tryz.ntmps76
  go_wp2_with fail
  refine (kind0_at (k := [105, 110, 116]) H0.out HS0.out (by decide) (by decide)).mono ?_
  rintro e w1 ⟨s1, q1, rfl, hS1, hq1, hu1⟩
  have HS1 : Hid (Stp y base w s w1 s1 (0 + 1)) := hS1
  have hb1 : bb < w1.heap.size := Nat.lt_of_lt_of_le hblt hS1.fr.size
  have c0_1 := hS1.cell H0.out hbb c0
  have c2_1 := hS1.cell H0.out hbb c2
  have HE1 : Hid (EnT w1 base l bp s1) := HE0.out.stp H0.out hS1
  have t1_1 := hq1
  clear hS1 hu1 hq1
  go_wp2_with fail
  (first | go_ret2 | go_ret3)
  exact ⟨s1, q1, l, bp, _, o0, rfl, ho, HS1.out.le (by omega), t1_1, HE1.out, hO⟩

set_option maxHeartbeats 3200000 in
set_option maxRecDepth 100000 in
theorem pat_bool {n : Nat} {o0 : Option Addr} (IH : PaOk y base n) (hk : k = [98, 111, 111, 108]) (h0 : Cy y base w s) (hE : EnT w base l bp s) (ho : bp 0 = .pointer o0) (hO : EO f d M l ns) (hN : Nd w (fun b => base ≤ b) (nd k z nm ow [] pats) p) (hc : 1 ≤ c) (hp : pot w s + (c : Int) ≤ 9223372036854775807) :
    Calls Tryz.prog 76 #[.pointer (some ⟨y, 0, none⟩), p, .pointer o0] w (PaR y base w s d M (([] : List (List UInt8)) ++ ns) c) := by
  obtain ⟨bb, rfl, hbX, hblt⟩ := hN.ptr
  obtain ⟨c0, c2, -⟩ := hN.cells
  have qq0 : (k == [118, 97, 114]) = false := by subst hk; decide
  have qq1 : (k == [110, 117, 109]) = false := by subst hk; decide
  have qq2 : (k == [98, 111, 111, 108]) = true := by subst hk; decide
  clear hk
  have HS0 : Hid (Stp y base w s w s 0) := Stp.refl h0
  have H0 : Hid (Cy y base w s) := h0
  have HE0 : Hid (EnT w base l bp s) := hE
  have hbb : bb < base := by omega
  clear h0 hE hN
  go_enter Tryz.func76, Tryz.ntmps76
  go_wp2_with fail
  refine (kind0_at (k := [98, 111, 111, 108]) H0.out HS0.out (by decide) (by decide)).mono ?_
  rintro e w1 ⟨s1, q1, rfl, hS1, hq1, hu1⟩
  have HS1 : Hid (Stp y base w s w1 s1 (0 + 1)) := hS1
  have hb1 : bb < w1.heap.size := Nat.lt_of_lt_of_le hblt hS1.fr.size
  have c0_1 := hS1.cell H0.out hbb c0
  have c2_1 := hS1.cell H0.out hbb c2
  have HE1 : Hid (EnT w1 base l bp s1) := HE0.out.stp H0.out hS1
  have t1_1 := hq1
  clear hS1 hu1 hq1
  go_wp2_with fail
  (first | go_ret2 | go_ret3)
  exact ⟨s1, q1, l, bp, _, o0, rfl, ho, HS1.out.le (by omega), t1_1, HE1.out, hO⟩

set_option maxHeartbeats 3200000 in
set_option maxRecDepth 100000 in
theorem pat_any {n : Nat} {o0 : Option Addr} (IH : PaOk y base n) (hk : k = [97, 110, 121]) (h0 : Cy y base w s) (hE : EnT w base l bp s) (ho : bp 0 = .pointer o0) (hO : EO f d M l ns) (hN : Nd w (fun b => base ≤ b) (nd k z nm ow [] pats) p) (hc : 1 ≤ c) (hp : pot w s + (c : Int) ≤ 9223372036854775807) :
    Calls Tryz.prog 76 #[.pointer (some ⟨y, 0, none⟩), p, .pointer o0] w (PaR y base w s d M (([] : List (List UInt8)) ++ ns) c) := by
  obtain ⟨bb, rfl, hbX, hblt⟩ := hN.ptr
  obtain ⟨c0, c2, -⟩ := hN.cells
  have qq0 : (k == [118, 97, 114]) = false := by subst hk; decide
  have qq1 : (k == [110, 117, 109]) = false := by subst hk; decide
  have qq2 : (k == [98, 111, 111, 108]) = false := by subst hk; decide
  have qq3 : (k == [97, 110, 121]) = true := by subst hk; decide
  clear hk
  have HS0 : Hid (Stp y base w s w s 0) := Stp.refl h0
  have H0 : Hid (Cy y base w s) := h0
  have HE0 : Hid (EnT w base l bp s) := hE
  have hbb : bb < base := by omega
  clear h0 hE hN
  go_enter Tryz.func76, Tryz.ntmps76
  go_wp2_with fail
  refine (kind0_at (k := []) H0.out HS0.out (by decide) (by decide)).mono ?_
  rintro e w1 ⟨s1, q1, rfl, hS1, hq1, hu1⟩
  have HS1 : Hid (Stp y base w s w1 s1 (0 + 1)) := hS1
  have hb1 : bb < w1.heap.size := Nat.lt_of_lt_of_le hblt hS1.fr.size
  have c0_1 := hS1.cell H0.out hbb c0
  have c2_1 := hS1.cell H0.out hbb c2
  have HE1 : Hid (EnT w1 base l bp s1) := HE0.out.stp H0.out hS1
  have t1_1 := hq1
  clear hS1 hu1 hq1
  go_wp2_with fail
  (first | go_ret2 | go_ret3)
  exact ⟨s1, q1, l, bp, _, o0, rfl, ho, HS1.out.le (by omega), t1_1, HE1.out, hO⟩

set_option maxHeartbeats 3200000 in
set_option maxRecDepth 100000 in
theorem pat_nil {n : Nat} {o0 : Option Addr} (IH : PaOk y base n) (hk : k = [110, 105, 108]) (h0 : Cy y base w s) (hE : EnT w base l bp s) (ho : bp 0 = .pointer o0) (hO : EO f d M l ns) (hN : Nd w (fun b => base ≤ b) (nd k z nm ow [] pats) p) (hc : 2 ≤ c) (hp : pot w s + (c : Int) ≤ 9223372036854775807) :
    Calls Tryz.prog 76 #[.pointer (some ⟨y, 0, none⟩), p, .pointer o0] w (PaR y base w s d M (([] : List (List UInt8)) ++ ns) c) := by
  obtain ⟨bb, rfl, hbX, hblt⟩ := hN.ptr
  obtain ⟨c0, c2, -⟩ := hN.cells
  have qq0 : (k == [118, 97, 114]) = false := by subst hk; decide
  have qq1 : (k == [110, 117, 109]) = false := by subst hk; decide
  have qq2 : (k == [98, 111, 111, 108]) = false := by subst hk; decide
  have qq3 : (k == [97, 110, 121]) = false := by subst hk; decide
  have qq4 : (k == [110, 105, 108]) = true := by subst hk; decide
  clear hk
  have HS0 : Hid (Stp y base w s w s 0) := Stp.refl h0
  have H0 : Hid (Cy y base w s) := h0
  have HE0 : Hid (EnT w base l bp s) := hE
  have hbb : bb < base := by omega
  clear h0 hE hN
  go_enter Tryz.func76, Tryz.ntmps76
  go_wp2_with fail
  refine (kind0_at (k := []) H0.out HS0.out (by decide) (by decide)).mono ?_
  rintro e w1 ⟨s1, q1, rfl, hS1, hq1, hu1⟩
  have HS1 : Hid (Stp y base w s w1 s1 (0 + 1)) := hS1
  have hb1 : bb < w1.heap.size := Nat.lt_of_lt_of_le hblt hS1.fr.size
  have c0_1 := hS1.cell H0.out hbb c0
  have c2_1 := hS1.cell H0.out hbb c2
  have HE1 : Hid (EnT w1 base l bp s1) := HE0.out.stp H0.out hS1
  have t1_1 := hq1
  clear hS1 hu1 hq1
  go_wp2_with fail
  refine (kind1_at (k := [108, 105, 115, 116]) H0.out HS1.out t1_1 (by decide) (by decide)).mono ?_
  rintro e w2 ⟨s2, q2, rfl, hS2, hq2, hu2⟩
  have HS2 : Hid (Stp y base w s w2 s2 (0 + 1 + 1)) := hS2
  have hb2 : bb < w2.heap.size := Nat.lt_of_lt_of_le hblt hS2.fr.size
  have c0_2 := hS2.cell H0.out hbb c0
  have c2_2 := hS2.cell H0.out hbb c2
  have HE2 : Hid (EnT w2 base l bp s2) := HE0.out.stp H0.out hS2
  have t1_2 := hu2 _ t1_1
  have t2_2 := hq2
  clear hS2 hu2 hq2
  go_wp2_with fail
  (first | go_ret2 | go_ret3)
  exact ⟨s2, q2, l, bp, _, o0, rfl, ho, HS2.out.le (by omega), t2_2, HE2.out, hO⟩

set_option maxHeartbeats 3200000 in
set_option maxRecDepth 100000 in
theorem pat_var {n : Nat} {o0 : Option Addr} (IH : PaOk y base n) (hk : k = [118, 97, 114]) (h0 : Cy y base w s) (hE : EnT w base l bp s) (ho : bp 0 = .pointer o0) (hO : EO f d M l ns) (hN : Nd w (fun b => base ≤ b) (nd k z nm ow [] pats) p) (hc : 1 ≤ c) (hp : pot w s + (c : Int) ≤ 9223372036854775807) :
    Calls Tryz.prog 76 #[.pointer (some ⟨y, 0, none⟩), p, .pointer o0] w (PaR y base w s d M ([nm] ++ ns) c) := by
  obtain ⟨bb, rfl, hbX, hblt⟩ := hN.ptr
  obtain ⟨c0, c2, -⟩ := hN.cells
  have qq0 : (k == [118, 97, 114]) = true := by subst hk; decide
  clear hk
  have HS0 : Hid (Stp y base w s w s 0) := Stp.refl h0
  have H0 : Hid (Cy y base w s) := h0
  have HE0 : Hid (EnT w base l bp s) := hE
  have hbb : bb < base := by omega
  clear h0 hE hN
  go_enter Tryz.func76, Tryz.ntmps76
  go_wp2_with fail
  refine (kind0_at (k := []) H0.out HS0.out (by decide) (by decide)).mono ?_
  rintro e w1 ⟨s1, q1, rfl, hS1, hq1, hu1⟩
  have HS1 : Hid (Stp y base w s w1 s1 (0 + 1)) := hS1
  have hb1 : bb < w1.heap.size := Nat.lt_of_lt_of_le hblt hS1.fr.size
  have c0_1 := hS1.cell H0.out hbb c0
  have c2_1 := hS1.cell H0.out hbb c2
  have HE1 : Hid (EnT w1 base l bp s1) := HE0.out.stp H0.out hS1
  have t1_1 := hq1
  clear hS1 hu1 hq1
  go_wp2_with fail
  have hz1 := HS1.out.cy.size
  go_region
  all_goals
    go_wp2_with fail
    (first | go_ret2 | go_ret3)
    exact pat_end (c := c) H0.out HS1.out HE1.out ho hO t1_1 (by omega) _ _ (by repeat (first | exact Fr.refl _ _ | (refine Fr.setCell ?_ (by first | exact .inl rfl | exact .inr (Nat.le_refl _) | (right; simp; omega)) _) | refine Fr.drewN ?_ _ | refine Fr.drew ?_ | refine Fr.alloc ?_ _)) hz1 (by first | exact (MapKept.heap_alloc w1 _).1 | exact (MapKept.heap_alloc w1.drew _).1)
end
end Go.Proofs.YtnbhnjokpcdnnaaGreatDoor

namespace Go.Proofs.YtnbhnjokpcdnnaaGreatDoor
open Go.RowKit

section
variable {y base K : Nat} {w : World} {s : TyS} {l : List EN} {bp : Nat → Value} {ns : List (List UInt8)} {f d M N c : Nat} {k nm ow : List UInt8} {z : Int} {p : Value} {pats : List Code}

set_option maxHeartbeats 3200000 in
set_option maxRecDepth 100000 in
theorem pat_pair {n : Nat} {o0 : Option Addr} (IH : PaOk y base n) (hk : k = [112, 97, 105, 114]) (h0 : Cy y base w s) (hE : EnT w base l bp s) (ho : bp 0 = .pointer o0) (hO : EO f d M l ns) {a : Code} {xa : List (List UInt8)} {ca : Nat} (hPa : Pt n a xa ca) {b : Code} {xb : List (List UInt8)} {cb : Nat} (hPb : Pt n b xb cb) (hN : Nd w (fun b => base ≤ b) (nd k z nm ow [a, b] pats) p) (hc : ca + cb + 1 ≤ c) (hp : pot w s + (c : Int) ≤ 9223372036854775807) :
    Calls Tryz.prog 76 #[.pointer (some ⟨y, 0, none⟩), p, .pointer o0] w (PaR y base w s d M ((xb ++ xa) ++ ns) c) := by
  obtain ⟨bb, rfl, hbX, hblt⟩ := hN.ptr
  obtain ⟨c0, c2, -⟩ := hN.cells
  have qq0 : (k == [118, 97, 114]) = false := by subst hk; decide
  have qq1 : (k == [110, 117, 109]) = false := by subst hk; decide
  have qq2 : (k == [98, 111, 111, 108]) = false := by subst hk; decide
  have qq3 : (k == [97, 110, 121]) = false := by subst hk; decide
  have qq4 : (k == [110, 105, 108]) = false := by subst hk; decide
  have qp : (k == [112, 97, 105, 114]) = true := by subst hk; decide
  clear hk
  have HS0 : Hid (Stp y base w s w s 0) := Stp.refl h0
  have H0 : Hid (Cy y base w s) := h0
  have HE0 : Hid (EnT w base l bp s) := hE
  obtain ⟨g, gc, hbb, hgb, k4, hgc, hsub⟩ := hN.subc (by simp)
  have hgl : g < w.heap.size := by have := h0.size; omega
  obtain ⟨p0, d0, n0⟩ := hsub 0 (by simp)
  have HN0 : Hid (Nd w (fun b => base ≤ b) a p0) := n0
  clear n0
  obtain ⟨p1, d1, n1⟩ := hsub 1 (by simp)
  have HN1 : Hid (Nd w (fun b => base ≤ b) b p1) := n1
  clear n1
  simp only [List.length_cons, List.length_nil, Nat.zero_add, Nat.reduceAdd] at k4
  clear hsub
  clear h0 hE hN
  go_enter Tryz.func76, Tryz.ntmps76
  go_wp2_with fail
  refine (pat_at IH H0.out HS0.out HE0.out ho hO hPa HN0.out hp (by omega)).mono ?_
  rintro e w1 ⟨s1, q1, l1, bp1, f1, o1, rfl, ho1, hS1, hq1, hE1, hO1, hu1⟩
  have HS1 : Hid (Stp y base w s w1 s1 (0 + ca)) := hS1
  have hb1 : bb < w1.heap.size := Nat.lt_of_lt_of_le hblt hS1.fr.size
  have c0_1 := hS1.cell H0.out hbb c0
  have c2_1 := hS1.cell H0.out hbb c2
  have hgl1 : g < w1.heap.size := Nat.lt_of_lt_of_le hgl hS1.fr.size
  have k4_1 := hS1.cell H0.out hbb k4
  have d0_1 := hS1.cell H0.out hgb d0
  have d1_1 := hS1.cell H0.out hgb d1
  have HE1 : Hid (EnT w1 base l bp s1) := HE0.out.stp H0.out hS1
  have t1_1 := hq1
  clear hS1 hu1 hq1
  have HEE1 : Hid (EnT w1 base l1 bp1 s1) := hE1
  clear hE1
  go_wp2_with fail
  refine (pat_at IH H0.out HS1.out HEE1.out ho1 hO1 hPb (HS1.out.nd H0.out HN1.out) hp (by omega)).mono ?_
  rintro e w2 ⟨s2, q2, l2, bp2, f2, o2, rfl, ho2, hS2, hq2, hE2, hO2, hu2⟩
  have HS2 : Hid (Stp y base w s w2 s2 (0 + ca + cb)) := hS2
  have hb2 : bb < w2.heap.size := Nat.lt_of_lt_of_le hblt hS2.fr.size
  have c0_2 := hS2.cell H0.out hbb c0
  have c2_2 := hS2.cell H0.out hbb c2
  have hgl2 : g < w2.heap.size := Nat.lt_of_lt_of_le hgl hS2.fr.size
  have k4_2 := hS2.cell H0.out hbb k4
  have d0_2 := hS2.cell H0.out hgb d0
  have d1_2 := hS2.cell H0.out hgb d1
  have HE2 : Hid (EnT w2 base l bp s2) := HE0.out.stp H0.out hS2
  have t1_2 := hu2 _ t1_1
  have t2_2 := hq2
  clear hS2 hu2 hq2
  have HEE2 : Hid (EnT w2 base l2 bp2 s2) := hE2
  clear hE2
  rw [← List.append_assoc] at hO2
  go_wp2_with fail
  refine (kind2_at (k := [112, 97, 105, 114]) HS2.out.cy (Stp.refl HS2.out.cy) t1_2 t2_2 (by decide) (by decide)).mono ?_
  rintro e w3 ⟨s3, q3, rfl, hS3, hq3, hu3⟩
  have HEE3 : Hid (EnT w3 base l2 bp2 s3) := HEE2.out.stp HS2.out.cy hS3
  have HS3 : Hid (Stp y base w s w3 s3 (0 + ca + cb + (0 + 1))) := HS2.out.trans H0.out hS3
  have c0_3 := HS3.out.cell H0.out hbb c0
  have hb3 : bb < w3.heap.size := Nat.lt_of_lt_of_le hblt HS3.out.fr.size
  have t2_3 := hu3 _ t2_2
  clear hS3 hu3
  go_wp2_with fail
  (first | go_ret2 | go_ret3)
  exact ⟨s3, q3, l2, bp2, f2, o2, rfl, ho2, HS3.out.le (by omega), hq3, HEE3.out, hO2⟩

set_option maxHeartbeats 3200000 in
set_option maxRecDepth 100000 in
theorem pat_cons {n : Nat} {o0 : Option Addr} (IH : PaOk y base n) (hk : k = [99, 111, 110, 115]) (h0 : Cy y base w s) (hE : EnT w base l bp s) (ho : bp 0 = .pointer o0) (hO : EO f d M l ns) {a : Code} {xa : List (List UInt8)} {ca : Nat} (hPa : Pt n a xa ca) {b : Code} {xb : List (List UInt8)} {cb : Nat} (hPb : Pt n b xb cb) (hN : Nd w (fun b => base ≤ b) (nd k z nm ow [a, b] pats) p) (hc : ca + cb + 1 ≤ c) (hp : pot w s + (c : Int) ≤ 9223372036854775807) :
    Calls Tryz.prog 76 #[.pointer (some ⟨y, 0, none⟩), p, .pointer o0] w (PaR y base w s d M ((xb ++ xa) ++ ns) c) := by
  obtain ⟨bb, rfl, hbX, hblt⟩ := hN.ptr
  obtain ⟨c0, c2, -⟩ := hN.cells
  have qq0 : (k == [118, 97, 114]) = false := by subst hk; decide
  have qq1 : (k == [110, 117, 109]) = false := by subst hk; decide
  have qq2 : (k == [98, 111, 111, 108]) = false := by subst hk; decide
  have qq3 : (k == [97, 110, 121]) = false := by subst hk; decide
  have qq4 : (k == [110, 105, 108]) = false := by subst hk; decide
  have qp : (k == [112, 97, 105, 114]) = false := by subst hk; decide
  clear hk
  have HS0 : Hid (Stp y base w s w s 0) := Stp.refl h0
  have H0 : Hid (Cy y base w s) := h0
  have HE0 : Hid (EnT w base l bp s) := hE
  obtain ⟨g, gc, hbb, hgb, k4, hgc, hsub⟩ := hN.subc (by simp)
  have hgl : g < w.heap.size := by have := h0.size; omega
  obtain ⟨p0, d0, n0⟩ := hsub 0 (by simp)
  have HN0 : Hid (Nd w (fun b => base ≤ b) a p0) := n0
  clear n0
  obtain ⟨p1, d1, n1⟩ := hsub 1 (by simp)
  have HN1 : Hid (Nd w (fun b => base ≤ b) b p1) := n1
  clear n1
  simp only [List.length_cons, List.length_nil, Nat.zero_add, Nat.reduceAdd] at k4
  clear hsub
  clear h0 hE hN
  go_enter Tryz.func76, Tryz.ntmps76
  go_wp2_with fail
  refine (pat_at IH H0.out HS0.out HE0.out ho hO hPa HN0.out hp (by omega)).mono ?_
  rintro e w1 ⟨s1, q1, l1, bp1, f1, o1, rfl, ho1, hS1, hq1, hE1, hO1, hu1⟩
  have HS1 : Hid (Stp y base w s w1 s1 (0 + ca)) := hS1
  have hb1 : bb < w1.heap.size := Nat.lt_of_lt_of_le hblt hS1.fr.size
  have c0_1 := hS1.cell H0.out hbb c0
  have c2_1 := hS1.cell H0.out hbb c2
  have hgl1 : g < w1.heap.size := Nat.lt_of_lt_of_le hgl hS1.fr.size
  have k4_1 := hS1.cell H0.out hbb k4
  have d0_1 := hS1.cell H0.out hgb d0
  have d1_1 := hS1.cell H0.out hgb d1
  have HE1 : Hid (EnT w1 base l bp s1) := HE0.out.stp H0.out hS1
  have t1_1 := hq1
  clear hS1 hu1 hq1
  have HEE1 : Hid (EnT w1 base l1 bp1 s1) := hE1
  clear hE1
  go_wp2_with fail
  refine (pat_at IH H0.out HS1.out HEE1.out ho1 hO1 hPb (HS1.out.nd H0.out HN1.out) hp (by omega)).mono ?_
  rintro e w2 ⟨s2, q2, l2, bp2, f2, o2, rfl, ho2, hS2, hq2, hE2, hO2, hu2⟩
  have HS2 : Hid (Stp y base w s w2 s2 (0 + ca + cb)) := hS2
  have hb2 : bb < w2.heap.size := Nat.lt_of_lt_of_le hblt hS2.fr.size
  have c0_2 := hS2.cell H0.out hbb c0
  have c2_2 := hS2.cell H0.out hbb c2
  have hgl2 : g < w2.heap.size := Nat.lt_of_lt_of_le hgl hS2.fr.size
  have k4_2 := hS2.cell H0.out hbb k4
  have d0_2 := hS2.cell H0.out hgb d0
  have d1_2 := hS2.cell H0.out hgb d1
  have HE2 : Hid (EnT w2 base l bp s2) := HE0.out.stp H0.out hS2
  have t1_2 := hu2 _ t1_1
  have t2_2 := hq2
  clear hS2 hu2 hq2
  have HEE2 : Hid (EnT w2 base l2 bp2 s2) := hE2
  clear hE2
  rw [← List.append_assoc] at hO2
  go_wp2_with fail
  refine (kind1_at (k := [108, 105, 115, 116]) HS2.out.cy (Stp.refl HS2.out.cy) t1_2 (by decide) (by decide)).mono ?_
  rintro e w3 ⟨s3, q3, rfl, hS3, hq3, hu3⟩
  have HEE3 : Hid (EnT w3 base l2 bp2 s3) := HEE2.out.stp HS2.out.cy hS3
  have HS3 : Hid (Stp y base w s w3 s3 (0 + ca + cb + (0 + 1))) := HS2.out.trans H0.out hS3
  have c0_3 := HS3.out.cell H0.out hbb c0
  have hb3 : bb < w3.heap.size := Nat.lt_of_lt_of_le hblt HS3.out.fr.size
  have t2_3 := hu3 _ t2_2
  clear hS3 hu3
  go_wp2_with fail
  have hp3 := HS3.out.pot
  refine (same_at HS3.out.cy (Stp.refl HS3.out.cy) t2_3 hq3 (by omega)).mono ?_
  rintro e w4 ⟨rfl, s4, hS4, hu4⟩
  have HEE4 : Hid (EnT w4 base l2 bp2 s4) := HEE3.out.stp HS3.out.cy hS4
  have HS4 : Hid (Stp y base w s w4 s4 (0 + ca + cb + (0 + 1) + 0)) := HS3.out.trans H0.out hS4
  have hq4 := hu4 _ hq3
  clear hS4 hu4
  go_wp2_with fail
  (first | go_ret2 | go_ret3)
  exact ⟨s4, q3, l2, bp2, f2, o2, rfl, ho2, HS4.out.le (by omega), hq4, HEE4.out, hO2⟩
end
end Go.Proofs.YtnbhnjokpcdnnaaGreatDoor

namespace Go.Proofs.YtnbhnjokpcdnnaaGreatDoor
open Go.RowKit

section
variable {y base K : Nat} {w w1 : World} {s s1 : TyS} {l : List EN} {bp : Nat → Value} {ns : List (List UInt8)} {f d M N c c1 : Nat} {k nm ow : List UInt8} {z : Int} {p : Value}

theorem PaR.le {ns' : List (List UInt8)} {c' : Nat} {e : Ending} {w' : World} (h : PaR y base w s d M ns' c e w') (hc : c ≤ c') : PaR y base w s d M ns' c' e w' := by
  obtain ⟨s', q, l', bp', f', o', h1, h2, h3, h4⟩ := h
  exact ⟨s', q, l', bp', f', o', h1, h2, h3.le hc, h4⟩

theorem pat_ref : ∀ n, PaOk y base n
  | 0 => fun _ _ _ _ _ _ _ _ _ _ _ _ _ _ _ _ _ h => h.elim
  | n + 1 => fun w s l bp ns xs f d M c q p o0 h0 hE ho hO ⟨hc, hP⟩ hN hp => by
    have IH := pat_ref n
    rcases hP with ⟨x, rfl, rfl⟩ | ⟨k, z, hk, rfl, rfl, h2⟩ | ⟨k, a, b, xa, ca, xb, cb, hk, rfl, h3, h4, rfl, h5⟩
    · exact pat_var IH rfl h0 hE ho hO hN hc hp
    · rcases hk with rfl | rfl | rfl | rfl
      · exact pat_num IH rfl h0 hE ho hO hN hc hp
      · exact pat_bool IH rfl h0 hE ho hO hN hc hp
      · exact pat_any IH rfl h0 hE ho hO hN hc hp
      · exact pat_nil IH rfl h0 hE ho hO hN h2 hp
    · rcases hk with rfl | rfl
      · exact pat_pair IH rfl h0 hE ho hO h3 h4 hN h5 hp
      · exact pat_cons IH rfl h0 hE ho hO h3 h4 hN h5 hp

/-- A node's patterns. -/
theorem Nd.patl {n : Int} {subs pats : List Code} {b : Nat} (h : Nd w (fun b => base ≤ b) (nd k n nm ow subs pats) (.pointer (some ⟨b, 0, none⟩))) :
    ∃ pa pc, w.cell? ⟨b, 5, none⟩ = some (.slice pa pats.length pc) ∧ pats.length ≤ maxLen ∧ ∀ i (hi : i < pats.length), ∃ pg v, pa = some ⟨pg, 0, none⟩ ∧ pg < base ∧ w.cell? ⟨pg, i, none⟩ = some v ∧ Nd w (fun b => base ≤ b) pats[i] v := by
  obtain ⟨vs, vp, cs, cp, hbs, k4, k5, -, -, -, -, hrow, hrX, hds, hcl⟩ := h.rows
  have hrow' := hrow
  rcases hrow'.2 with ⟨rfl, h0⟩ | ⟨g, cap, cur, rfl, hg, hh, hle, hmx, -⟩
  · refine ⟨none, 0, by rw [k5, h0], by rw [h0]; unfold maxLen; omega, fun i hi => by omega⟩
  · refine ⟨some ⟨g, 0, none⟩, cap, k5, Nat.le_trans hle hmx, fun i hi => ?_⟩
    obtain ⟨v, h1, h2⟩ := hds.get hi
    exact ⟨g, v, rfl, by have := hrX g rfl; omega, by rw [World.ownsRow.cellAt hrow i (by omega)]; exact h1, h2⟩

theorem CtA.len {N : Nat} {ns : List (List UInt8)} : ∀ {bs qs : List Code} {U V : Nat}, CtA (Cst N) N ns bs qs U V → bs.length = qs.length
  | [], [], _, _, _ => rfl
  | _ :: _, _ :: _, _, _, ⟨_, _, _, _, _, _, _, _, h, _, _⟩ => by simp [CtA.len h]
  | [], _ :: _, _, _, h => h.elim
  | _ :: _, [], _, _, h => h.elim

theorem cost_sum2 {M u v U' V' U V e : Nat} (h1 : u + U' ≤ U) (h2 : e + v + V' ≤ V) : e + (M * u + v) + (M * U' + V') ≤ M * U + V := by
  have : M * (u + U') ≤ M * U := Nat.mul_le_mul_left _ h1
  rw [Nat.mul_add] at this
  omega

set_option maxHeartbeats 6400000 in
set_option maxRecDepth 100000 in
theorem ctl_match (IH : ExOk y base K) (hk : k = [109, 97, 116, 99, 104]) (h0 : Cy y base w s) (hE : EnT w base l bp s) (hO : EO f d M l ns) {a : Code} {bs' qs : List Code} {ua va U V : Nat} (hCa : Cst N ns a ua va) (hCA : CtA (Cst N) N ns bs' qs U V) (hda : d + wt a < K) (hdb : d + wts bs' < K) (hN : Nd w (fun b => base ≤ b) (nd k z nm ow (a :: bs') qs) p) (hc : M * ua + va + (M * U + V) + 1 ≤ c) (hp : pot w s + (c : Int) ≤ 9223372036854775807) :
    Calls Tryz.prog 51 #[ptrV y, p, bp 0] w (TyR y base w s c) := by
  obtain ⟨bb, rfl, hbX, hblt⟩ := hN.ptr
  obtain ⟨o0, ho⟩ := hE.env.ptr
  obtain ⟨c0, -, -⟩ := hN.cells
  have qq0 : (k == [116, 114, 121]) = false := by subst hk; decide
  have qq1 : (k == [109, 97, 116, 99, 104]) = true := by subst hk; decide
  clear hk
  rw [ho]
  have hlen := hCA.len
  have H0 : Hid (Cy y base w s) := h0
  have HE0 : Hid (EnT w base l bp s) := hE
  have HCA : Hid (CtA (Cst N) N ns bs' qs U V) := hCA
  obtain ⟨g, gc, hbb, hgb, k4, hgc, hsub⟩ := hN.subc (by simp)
  obtain ⟨pa, pc, k5, hql, hpat⟩ := hN.patl
  unfold maxLen at hql
  have HSUB : Hid (∀ i (hi : i < (a :: bs').length), ∃ v, w.cell? ⟨g, i, none⟩ = some v ∧ Nd w (fun b => base ≤ b) (a :: bs')[i] v) := hsub
  have HPAT : Hid (∀ i (hi : i < qs.length), ∃ pg v, pa = some ⟨pg, 0, none⟩ ∧ pg < base ∧ w.cell? ⟨pg, i, none⟩ = some v ∧ Nd w (fun b => base ≤ b) qs[i] v) := hpat
  have hgl : g < w.heap.size := by have := h0.size; omega
  simp only [List.length_cons] at k4
  clear h0 hE hN hsub hpat hCA hgc
  simp only [ptrV]
  go_enter Tryz.func51, Tryz.ntmps51
  go_wp2_with fail
  refine (kind0_at (k := []) H0.out (Stp.refl H0.out) (by decide) (by decide)).mono ?_
  rintro e w1 ⟨s1, q1, rfl, hS1, hq1, -⟩
  have HS1 : Hid (Stp y base w s w1 s1 (0 + 1)) := hS1
  have c0_1 := hS1.cell H0.out hbb c0
  have k4_1 := hS1.cell H0.out hbb k4
  have hb1 : bb < w1.heap.size := Nat.lt_of_lt_of_le hblt hS1.fr.size
  have hgl1 : g < w1.heap.size := Nat.lt_of_lt_of_le hgl hS1.fr.size
  obtain ⟨p0, d0, n0⟩ := HSUB.out 0 (by simp)
  have d0_1 := hS1.cell H0.out hgb d0
  have HX : Hid (Calls Tryz.prog 24 #[.pointer (some ⟨y, 0, none⟩), p0, .pointer o0] w1 (Ty1 y base w s s1 (0 + 1 + (M * ua + va)))) := exp_at IH H0.out hS1 (HE0.out.stp H0.out hS1) ho hO hCa hda (hS1.nd H0.out n0) hp (by omega)
  clear hS1 n0
  go_wp2_with fail
  refine HX.out.mono ?_
  rintro e w2 ⟨s2, q2, rfl, hS2, hq2, hu2⟩
  have HS2 : Hid (Stp y base w s w2 s2 (0 + 1 + (M * ua + va))) := hS2
  have hq1' := hu2 _ hq1
  clear hS2 hu2 HX d0 d0_1 k4_1 c0_1 hq1
  go_wp2_with fail
  go_loopg [12] qs.length (fun mm iv wr => ∃ (j : Nat) (s3 : TyS) (c3 U' V' : Nat), iv = .int .i64 j ∧ j ≤ qs.length ∧ mm = qs.length - j ∧ CtA (Cst N) N ns (bs'.drop j) (qs.drop j) U' V' ∧ c3 + (M * U' + V') ≤ c ∧ Stp y base w s wr s3 c3 ∧ tyB s3.m q1 ∧ tyB s3.m q2)
  case atStart => exact ⟨0, s2, _, U, V, rfl, Nat.zero_le _, rfl, HCA.out, by omega, HS2.out, hq1', hq2⟩
  case round =>
    obtain ⟨j, s3, c3, U', V', rfl, hj, hm, hC1, hc1, hS3, ht1, ht2⟩ := hrel
    have HMM : Hid (gk = qs.length - j) := hm
    have HS3 : Hid (Stp y base w s wr s3 c3) := hS3
    have hbr : bb < wr.heap.size := Nat.lt_of_lt_of_le hblt hS3.fr.size
    have k5_r := hS3.cell H0.out hbb k5
    clear hm
    by_cases hlt : j < qs.length
    · have hlb : j < bs'.length := by omega
      rw [List.drop_eq_getElem_cons hlt, List.drop_eq_getElem_cons hlb] at hC1
      obtain ⟨xs, e0, ub, vb, U2, V2, hPt, hCt, hC2, hu, hv⟩ := hC1
      have hsum := cost_sum2 (M := M) hu hv
      have hw := wts_get hlb
      obtain ⟨pg, pv, rfl, hpgb, dp, np⟩ := HPAT.out j hlt
      have dp_r := hS3.cell H0.out hpgb dp
      have hpgl : pg < wr.heap.size := by have := hS3.cy.size; omega
      have HP : Hid (Nd wr (fun b => base ≤ b) qs[j] pv) := hS3.nd H0.out np
      have HER : Hid (EnT wr base l bp s3) := HE0.out.stp H0.out hS3
      have HC2 : Hid (CtA (Cst N) N ns (bs'.drop (j + 1)) (qs.drop (j + 1)) U2 V2) := hC2
      have HPt : Hid (Pt N qs[j] xs e0) := hPt
      have HCt : Hid (Cst N (xs ++ ns) bs'[j] ub vb) := hCt
      clear hS3 hC2 np dp hPt hCt
      go_wp2_with fail
      refine (pat_at (pat_ref N) H0.out HS3.out HER.out ho hO HPt.out HP.out hp (by omega)).mono ?_
      rintro e w4 ⟨s4, q4, l4, bp4, f4, o4, rfl, ho4, hS4, hq4, hE4, hO4, hu4⟩
      have HS4 : Hid (Stp y base w s w4 s4 (c3 + e0)) := hS4
      have HE4 : Hid (EnT w4 base l4 bp4 s4) := hE4
      have ht1' := hu4 _ ht1
      have ht2' := hu4 _ ht2
      have hp4 := hS4.pot
      clear hS4 hE4 hu4 ht1 ht2
      go_wp2_with fail
      refine (same_at HS4.out.cy (Stp.refl HS4.out.cy) ht2' hq4 (by omega)).mono ?_
      rintro e w5 ⟨rfl, s5, hS5, hu5⟩
      have hS5' := HS4.out.trans H0.out hS5
      have HS5 : Hid (Stp y base w s w5 s5 (c3 + e0 + 0)) := hS5'
      have HE5 : Hid (EnT w5 base l4 bp4 s5) := HE4.out.stp HS4.out.cy hS5
      have ht1'' := hu5 _ ht1'
      have ht2'' := hu5 _ ht2'
      obtain ⟨pb, db, nb⟩ := HSUB.out (j + 1) (by simp; omega)
      have db_5 := hS5'.cell H0.out hgb db
      have k4_5 := hS5'.cell H0.out hbb k4
      have hb5 : bb < w5.heap.size := Nat.lt_of_lt_of_le hblt hS5'.fr.size
      have hgl5 : g < w5.heap.size := Nat.lt_of_lt_of_le hgl hS5'.fr.size
      have HX : Hid (Calls Tryz.prog 24 #[.pointer (some ⟨y, 0, none⟩), pb, .pointer o4] w5 (Ty1 y base w s s5 (c3 + e0 + 0 + (M * ub + vb)))) := exp_at IH H0.out hS5' HE5.out ho4 hO4 HCt.out (by omega) (hS5'.nd H0.out nb) hp (by omega)
      clear hS5 hS5' hu5 nb db
      go_wp2_with fail
      refine HX.out.mono ?_
      rintro e w6 ⟨s6, q6, rfl, hS6, hq6, hu6⟩
      have HS6 : Hid (Stp y base w s w6 s6 (c3 + e0 + 0 + (M * ub + vb))) := hS6
      have hr1 := hu6 _ ht1''
      have hr2 := hu6 _ ht2''
      clear hS6 hu6 HX
      go_wp2_with fail
      refine (same_at H0.out HS6.out hq6 hr1 (by omega)).mono ?_
      rintro e w7 ⟨rfl, s7, hS7, hu7⟩
      have HS7 : Hid (Stp y base w s w7 s7 (c3 + e0 + 0 + (M * ub + vb))) := hS7
      have hr1' := hu7 _ hr1
      have hr2' := hu7 _ hr2
      clear hS7 hu7
      go_wp2_with fail
      go_roundg (qs.length - (j + 1))
      case measure => rw [HMM.out]; omega
      case rel => exact ⟨j + 1, s7, _, U2, V2, by go_num, by omega, rfl, HC2.out, by omega, HS7.out, hr1', hr2'⟩
    · obtain rfl : j = qs.length := by omega
      clear hS3 hC1
      go_wp2_with fail
      go_ret
      exact ⟨s3, q1, rfl, HS3.out.le (by omega), ht1⟩
end
end Go.Proofs.YtnbhnjokpcdnnaaGreatDoor

namespace Go.Proofs.YtnbhnjokpcdnnaaGreatDoor
open Go.RowKit

theorem Tryz.infoPT : (Tryz.prog.info? 50).map (fun i => (i.zero, i.size, i.bytes)) = some (some (.pointer none), 1, 8) := by kernel_rfl
theorem slPT : SlT Tryz.prog 83 50 (.pointer none) 1 8 := ⟨Tryz.underlying83, info_parts Tryz.infoPT, rfl, by decide⟩

section
variable {y base K B : Nat} {w w0 w1 : World} {s s0 s1 : TyS} {l : List EN} {bp : Nat → Value} {ns : List (List UInt8)} {f d M N c c1 : Nat} {v v' : Value} {n : Nat} {cs : List Value}

/-- The parts of no type lie in that row. -/
def Sep (w : World) (m : Nat → Option TN) (v : Value) : Prop := ∀ b t sv is sn, m b = some t → w.heap[b]? = some (.cells #[.string (bs t.k), sv, is, sn] 114 (0, 0)) → ∀ g, sv.ownBlock = some g → v.ownBlock ≠ some g

theorem row_ty (hr : w.ownsRow B 50 1 v n cs) {g : Nat} (hg : v.ownBlock = some g) : B ≤ g ∧ g < w.heap.size ∧ ∃ c, w.heap[g]? = some (.cells c 50 (0, 0)) := by
  rcases hr.2 with ⟨rfl, _⟩ | ⟨g', cap, cur, rfl, hb, hh, _⟩
  · cases hg
  · cases hg
    exact ⟨hb, (Array.getElem?_eq_some_iff.1 hh).1, _, hh⟩

theorem row_not (h : Cy y base w s) (hr : w.ownsRow B 50 1 v n cs) {g : Nat} (hg : v.ownBlock = some g) : ¬ (tyB s.m g ∨ g = y) := by
  obtain ⟨-, -, c, hh⟩ := row_ty hr hg
  rintro (⟨t, ht⟩ | rfl)
  · obtain ⟨-, sv, h1, -⟩ := h.ts.at_ g t ht
    rw [h1] at hh
    injection hh with hh
    injection hh with _ hh
    exact absurd hh (by decide)
  · have h1 := h.ty
    unfold Tyr at h1
    rw [h1] at hh
    injection hh with hh
    injection hh with _ hh
    exact absurd hh (by decide)

/-- A row of types lies there as it lay. -/
theorem row_stp (h : Cy y base w s) (hS : Stp y base w s w1 s1 c) (hr : w.ownsRow B 50 1 v n cs) : w1.ownsRow B 50 1 v n cs :=
  ownsRow_block hr fun g hg => hS.fr.block g (row_ty hr hg).2.1 (row_not h hr hg)

/-- A row of the caller's own has grown. -/
theorem Cy.app (h : Cy y base w s) (hr : w.ownsRow B 50 1 v n cs) (hsep : Sep w s.m v) (hg : w.grownBy w1 v.ownBlock) : Cy y base w1 s ∧ Fr (fun b => v.ownBlock = some b) w w1 := by
  have hF : Fr (fun b => v.ownBlock = some b) w w1 := (Fr.refl _ w).grown hg (fun k hk => .inl hk)
  refine ⟨⟨⟨fun b t hb => ?_⟩, ?_, h.inv, h.dm, h.sw0, h.hb, h.kl⟩, hF⟩
  · obtain ⟨h0, sv, h1, h2⟩ := h.ts.at_ b t hb
    refine ⟨h0, sv, (hF.block b (h.ts.lt hb) (fun he => row_not h hr he (.inl ⟨t, hb⟩))).trans h1, ownsRow_block h2 fun g hg => hF.block g (h2.lt g hg).2 (fun he => hsep b t sv _ _ hb h1 g hg he)⟩
  · have h1 := h.ty
    unfold Tyr at h1 ⊢
    exact (hF.block y (Array.getElem?_eq_some_iff.1 h1).1 (fun he => row_not h hr he (.inr rfl))).trans h1

theorem Stp.app (h0 : Cy y base w0 s0) (h : Stp y base w0 s0 w s c) (hr : w.ownsRow w0.heap.size 50 1 v n cs) (hsep : Sep w s.m v) (hg : w.grownBy w1 v.ownBlock) : Stp y base w0 s0 w1 s c := by
  obtain ⟨hc, hF⟩ := h.cy.app hr hsep hg
  refine ⟨hc, h.fr.trans hF (fun i hi => .inr (row_ty hr hi).1), h.up, h.old, ?_⟩
  have := h.pot
  unfold Go.Proofs.YtnbhnjokpcdnnaaGreatDoor.pot at this ⊢
  rw [cnt_grow h.cy.ts hF.size]
  exact this

theorem EnT.app (hE : EnT w base l bp s) (hr : w.ownsRow B 50 1 v n cs) (hB : base ≤ B) (hg : w.grownBy w1 v.ownBlock) : EnT w1 base l bp s := by
  have hF : Fr (fun b => v.ownBlock = some b) w w1 := (Fr.refl _ w).grown hg (fun k hk => .inl hk)
  refine ⟨hE.env.fr hF (fun b hb => Nat.le_trans hB (row_ty hr hb).1) ?_, hE.ty⟩
  intro b c hb he
  obtain ⟨-, -, c', hh⟩ := row_ty hr he
  rw [hb] at hh
  injection hh with hh
  injection hh with _ hh
  exact absurd hh (by decide)

theorem Sep.app (h : Cy y base w s) (hr : w.ownsRow B 50 1 v n cs) (hsep : Sep w s.m v) (hg : w.grownBy w1 v.ownBlock) (hv : v'.ownBlock = v.ownBlock ∨ v'.ownBlock = some w.heap.size) : Sep w1 s.m v' := by
  intro b t sv is sn hb hblk g hg2
  obtain ⟨-, hF⟩ := h.app hr hsep hg
  obtain ⟨h0, sv', h1, h2⟩ := h.ts.at_ b t hb
  have h3 := (hF.block b (h.ts.lt hb) (fun he => row_not h hr he (.inl ⟨t, hb⟩))).trans h1
  rw [h3] at hblk
  have e1 : sv' = sv := by
    injection hblk with hblk
    injection hblk with hblk
    injection hblk with hblk
    injection hblk with _ hblk
    injection hblk with hblk
  subst e1
  rcases hv with hv | hv
  · rw [hv]
    exact hsep b t sv' _ _ hb h1 g hg2
  · rw [hv]
    intro he
    injection he with he
    have := (h2.lt g hg2).2
    omega

/-- A new type without parts, another new block. -/
theorem Sep.node (hsep : Sep w s.m v) (h : Cy y base w s) {k : List UInt8} : Sep (w.alloc (.cells #[.string (bs k), .slice none 0 0, .pointer none, .int .i64 0] 114)) (upd s.m w.heap.size ⟨k, [], none, 0⟩) v := by
  intro b t sv is sn hb hblk g hg
  by_cases e : b = w.heap.size
  · subst e
    rw [(MapKept.heap_alloc w _).1] at hblk
    have e1 : Value.slice none 0 0 = sv := by
      injection hblk with hblk
      injection hblk with hblk
      injection hblk with hblk
      injection hblk with _ hblk
      injection hblk with hblk
    subst e1
    cases hg
  · rw [upd_other e] at hb
    rw [Below.heap_alloc _ _ _ (h.ts.lt hb)] at hblk
    exact hsep b t sv is sn hb hblk g hg

theorem Sep.grow (hsep : Sep w s.m v) (h : Cy y base w s) (hF : Fr (fun _ => False) w w1) : Sep w1 s.m v := by
  intro b t sv is sn hb hblk g hg
  rw [hF.block b (h.ts.lt hb) (fun h => h)] at hblk
  exact hsep b t sv is sn hb hblk g hg

theorem Sep.nil : Sep w s.m (.slice none 0 0) := by
  intro b t sv is sn hb hblk g hg he
  cases he

/-- The functions of a group, without their own types. -/
def CtF (N : Nat) (ns : List (List UInt8)) : List Code → Nat → Nat → Prop
  | [], _, _ => True
  | d :: ds, U, V => ∃ x o b ub vb U' V', d = nd [100, 101, 102] 0 x o [b] [] ∧ Cst N (x :: ns) b ub vb ∧ CtF N ns ds U' V' ∧ ub + U' ≤ U ∧ vb + 2 + V' ≤ V

theorem CtG.fs : ∀ {ds : List Code} {U V : Nat}, CtG (Cst N) ns ds U V → ∃ V0, CtF N ns ds U V0 ∧ V0 + ds.length ≤ V
  | [], _, _, _ => ⟨0, trivial, by simp⟩
  | d :: ds, U, V, ⟨x, o, b, ub, vb, U', V', h1, h2, h3, h4, h5⟩ => by
    obtain ⟨V0, k1, k2⟩ := CtG.fs h3
    exact ⟨vb + 2 + V0, ⟨x, o, b, ub, vb, U', V0, h1, h2, k1, h4, Nat.le_refl _⟩, by simp; omega⟩

theorem CtF.len : ∀ {ds : List Code} {U V : Nat}, CtF N ns ds U V → ds.length ≤ wts ds
  | [], _, _, _ => by simp [wts]
  | d :: ds, U, V, ⟨x, o, b, ub, vb, U', V', h1, h2, h3, h4, h5⟩ => by
    have := CtF.len h3
    subst h1
    rw [wts_cons, wt_nd]
    simp
    omega

theorem CtF.at {ds : List Code} {U V : Nat} (h : CtF N ns ds U V) : ∀ j (hj : j < ds.length), ∃ x o b, ds[j] = nd [100, 101, 102] 0 x o [b] [] := by
  induction ds generalizing U V with
  | nil => intro j hj; simp at hj
  | cons d ds ih =>
    obtain ⟨x, o, b, ub, vb, U', V', h1, h2, h3, h4, h5⟩ := h
    intro j hj
    cases j with
    | zero => exact ⟨x, o, b, h1⟩
    | succ j => exact ih h3 j (by simpa using hj)

theorem cost_sum3 {M u v U' V' U V : Nat} (h1 : u + U' ≤ U) (h2 : v + 2 + V' ≤ V) : M * u + v + 2 + (M * U' + V') ≤ M * U + V := by
  have : M * (u + U') ≤ M * U := Nat.mul_le_mul_left _ h1
  rw [Nat.mul_add] at this
  omega
end
end Go.Proofs.YtnbhnjokpcdnnaaGreatDoor

namespace Go.Proofs.YtnbhnjokpcdnnaaGreatDoor
open Go.RowKit

section
variable {y base K : Nat} {w w1 : World} {s s1 : TyS} {l : List EN} {bp : Nat → Value} {ns : List (List UInt8)} {f d M N c c1 : Nat}

theorem kind_sep {v : Value} (h : Cy y base w s) (hsep : Sep w s.m v) : Calls Tryz.prog 44 #[.string (bs []), .slice none 0 0] w fun e w' => ∃ s' q, e = .returned (.pointer (some ⟨q, 0, none⟩)) ∧ Stp y base w s w' s' 1 ∧ tyB s'.m q ∧ Sep w' s'.m v := by
  refine (kind_ref [] none 0 0 w).mono ?_
  rintro e w' ⟨rfl, rfl⟩
  obtain ⟨h1, h2⟩ := Stp.node h (k := []) (subs := []) (World.ownsRow_nil _ _ _ _) (by simp) (by decide) (by decide)
  exact ⟨_, _, rfl, h1, h2, hsep.node h⟩

set_option maxHeartbeats 6400000 in
set_option maxRecDepth 100000 in
theorem group_ref (IH : ExOk y base K) (hK : K ≤ 1000) {n : List UInt8} {gr : List Code} {gb gc U V : Nat} (hne : gr ≠ []) (h0 : Cy y base w s) (hE : EnT w base l bp s) (hO : EO f d M l ns) (hC : CtG (Cst N) (gr.map ownOf ++ ns) gr U V) (hd : d + wts gr ≤ K) (hgb : gb < base) (hr : ∀ i (hi : i < gr.length), ∃ v, w.cell? ⟨gb, i, none⟩ = some v ∧ Nd w (fun b => base ≤ b) gr[i] v) (hc : M * U + V ≤ c) (hp : pot w s + (c : Int) ≤ 9223372036854775807) :
    Calls Tryz.prog 48 #[ptrV y, .string (bs n), .slice (some ⟨gb, 0, none⟩) gr.length gc, bp 0] w (TyR y base w s c) := by
  obtain ⟨V0, hF, hV0⟩ := hC.fs
  have hlw := hF.len
  have hgl : gr.length ≤ 1000 := by omega
  have hpos : 0 < gr.length := List.length_pos_iff.2 hne
  obtain ⟨o0, ho⟩ := hE.env.ptr
  rw [ho]
  have H0 : Hid (Cy y base w s) := h0
  have HE : Hid (EnT w base l bp s) := hE
  have HR : Hid (∀ i (hi : i < gr.length), ∃ v, w.cell? ⟨gb, i, none⟩ = some v ∧ Nd w (fun b => base ≤ b) gr[i] v) := hr
  have HF : Hid (CtF N (gr.map ownOf ++ ns) gr U V0) := hF
  have hz0 := h0.size
  clear h0 hE hr hC hF
  simp only [ptrV]
  go_enter Tryz.func48, Tryz.ntmps48
  go_wp2_with fail
  go_loopg [9, 10, 11] gr.length (fun mm inv tsv iv wr => ∃ (j : Nat) (s1 : TyS) (l1 : List EN) (bp1 : Nat → Value) (f1 : Nat) (o1 : Option Addr) (ns1 : List (List UInt8)) (ts : List Nat), iv = .int .i64 j ∧ j ≤ gr.length ∧ mm = gr.length - j ∧ inv = .pointer o1 ∧ bp1 0 = .pointer o1 ∧ Stp y base w s wr s1 j ∧ EnT wr base l1 bp1 s1 ∧ EO f1 d M l1 ns1 ∧ (∀ x ∈ (gr.take j).map ownOf ++ ns, x ∈ ns1) ∧ ts.length = j ∧ wr.ownsRow w.heap.size 50 1 tsv j (ts.map ptrV) ∧ (∀ a ∈ ts, tyB s1.m a) ∧ Sep wr s1.m tsv)
  case atStart => exact ⟨0, s, l, bp, f, o0, ns, [], rfl, Nat.zero_le _, rfl, rfl, ho, Stp.refl H0.out, HE.out, hO, by simp, rfl, World.ownsRow_nil _ _ _ _, by simp, Sep.nil⟩
  case round =>
    obtain ⟨j, s1, l1, bp1, f1, o1, ns1, ts, rfl, hj, hm, rfl, ho1, hS1, hE1, hO1, hn1, htl, hrow, hts, hsep⟩ := hrel
    have HMM : Hid (gk = gr.length - j) := hm
    have HS1 : Hid (Stp y base w s wr s1 j) := hS1
    have HE1 : Hid (EnT wr base l1 bp1 s1) := hE1
    have HO1 : Hid (EO f1 d M l1 ns1 ∧ ∀ x ∈ (gr.take j).map ownOf ++ ns, x ∈ ns1) := ⟨hO1, hn1⟩
    have HTS : Hid (ts.length = j ∧ ∀ a ∈ ts, tyB s1.m a) := ⟨htl, hts⟩
    have HSEP : Hid (Sep wr s1.m _) := hsep
    have HROW : Hid (wr.ownsRow w.heap.size 50 1 _ j (ts.map ptrV)) := hrow
    obtain ⟨ta, tc, rfl⟩ := ownsRow_len hrow
    clear hm hS1 hE1 hO1 hn1 htl hts hsep hrow
    by_cases hlt : j < gr.length
    · obtain ⟨pv, hcell, hNs⟩ := HR.out j hlt
      obtain ⟨x, o, b, hgj⟩ := HF.out.at j hlt
      rw [hgj] at hNs
      have HNS : Hid (Nd w (fun b => base ≤ b) (nd [100, 101, 102] 0 x o [b] []) pv) := hNs
      have HGJ : Hid (gr[j] = nd [100, 101, 102] 0 x o [b] []) := hgj
      clear hNs hgj
      go_wp2_with fail
      refine (kind_sep HS1.out.cy HSEP.out).mono ?_
      rintro e w2 ⟨s2, q2, rfl, hS2, hq2, hsep2⟩
      have hz2 := hS2.cy.size
      have HS2l : Hid (Stp y base wr s1 w2 s2 1) := hS2
      have HSEP2 : Hid (Sep w2 s2.m (.slice ta j tc)) := hsep2
      have HROW2 : Hid (w2.ownsRow w.heap.size 50 1 (.slice ta j tc) j (ts.map ptrV)) := row_stp HS1.out.cy hS2 HROW.out
      have HQ2 : Hid (tyB s2.m q2) := hq2
      clear hS2 hsep2 hq2
      obtain ⟨pb, rfl, hpb, -⟩ := HNS.out.ptr
      have hpb : pb < base := by omega
      obtain ⟨-, -, cown⟩ := HNS.out.cells
      go_wp2_with (at_builtin; refine wpList_app slPT rfl (.tmp 24) (.tmp 26) rfl w.heap.size j (ts.map ptrV) _ rfl (HROW2.out.alloc _) ⟨w2.heap.size, 0, none⟩ 1 1 [.pointer (some ⟨q2, 0, none⟩)] rfl rfl ?c1 ?c2 (by decide) ?b1 ?b2 ?b3 ?grow)
      case c1 => intro j u hj; match j, hj with | 0, hj => simp at hj; subst hj; simp [Addr.add]
      case c2 => intro u hu; simp at hu; rcases hu with rfl; rfl
      case b1 => unfold maxLen; omega
      case b2 => omega
      case b3 => have h1 := HS1.out.fr.size; have h2 := HS2l.out.fr.size; simp; omega
      case grow =>
        intro v' w3 hown hgrow hv g' cap hfm
        subst hfm
        have hFa : Fr (fun _ => False) w2 (w2.alloc (.cells #[.pointer (some ⟨q2, 0, none⟩)] 50)) := (Fr.refl _ w2).alloc _
        have hGa := Stp.grow HS2l.out.cy hFa
        have hS2a := (HS1.out.trans H0.out HS2l.out).trans H0.out hGa
        have hsepa := HSEP2.out.grow HS2l.out.cy hFa
        have hS3 := Stp.app H0.out hS2a (HROW2.out.alloc _) hsepa hgrow
        have HS3 : Hid (Stp y base w s w3 s2 (j + 1 + 0)) := hS3
        have HE3 : Hid (EnT w3 base l1 bp1 s2) := (((HE1.out.stp HS1.out.cy HS2l.out).stp HS2l.out.cy hGa)).app (HROW2.out.alloc _) hz0 hgrow
        have HSEP3 : Hid (Sep w3 s2.m (.slice (some ⟨g', 0, none⟩) (j + 1) cap)) := Sep.app hGa.cy (HROW2.out.alloc _) hsepa hgrow (by simpa using hv)
        have HROW3 : Hid (w3.ownsRow w.heap.size 50 1 (.slice (some ⟨g', 0, none⟩) (j + 1) cap) (j + 1) ((ts ++ [q2]).map ptrV)) := by
          show World.ownsRow _ _ _ _ _ _ _
          rw [List.map_append]
          exact hown
        have hc3 := hS3.cell H0.out hgb hcell
        have co3 := hS3.cell H0.out hpb cown
        have hl3 : gb < w3.heap.size := by have := hS3.cy.size; omega
        have hp3 : pb < w3.heap.size := by have := hS3.cy.size; omega
        have hz3 := hS3.cy.size
        have HUP : Hid (∀ a, tyB s1.m a → tyB s2.m a) := HS2l.out.up
        clear hown hgrow hv hS3 hS2a hGa hsepa hFa HE1 HS2l HSEP2 HROW2 HROW HSEP
        go_wp2_with fail
        go_roundg (gr.length - (j + 1))
        case measure => rw [HMM.out]; omega
        case rel =>
          have hFb : Fr (fun _ => False) w3 (w3.alloc (.cells #[.string (bs o), .pointer (some ⟨q2, 0, none⟩), .pointer none, .slice none 0 0, .pointer none, .pointer o1] 107)) := (Fr.refl _ w3).alloc _
          have hGb := Stp.grow HS3.out.cy hFb
          refine ⟨j + 1, s2, ⟨o, some q2, none, [], 0⟩ :: l1, _, f1 + 1, some ⟨w3.heap.size, 0, none⟩, o :: ns1, ts ++ [q2], by go_num, by omega, rfl, rfl, rfl, (HS3.out.trans H0.out hGb).le (by omega), (HE3.out.stp HS3.out.cy hGb).cons (e := ⟨o, some q2, none, [], 0⟩) hz3 (by rw [ho1]; exact (MapKept.heap_alloc w3 _).1) rfl (.inl ⟨rfl, rfl⟩) (by simp) (by simp; exact HQ2.out), HO1.out.1.plain o q2, ?_, ?_, HROW3.out.alloc _, ?_, HSEP3.out.grow HS3.out.cy hFb⟩
          · intro u hu
            rw [List.take_succ_eq_append_getElem hlt, List.map_append, List.map_singleton, HGJ.out, ownOf_nd, List.append_assoc] at hu
            rcases List.mem_append.1 hu with h | h
            · exact List.mem_cons_of_mem _ (HO1.out.2 u (List.mem_append.2 (.inl h)))
            · rcases List.mem_append.1 h with h | h
              · simp at h; subst h; exact List.mem_cons_self
              · exact List.mem_cons_of_mem _ (HO1.out.2 u (List.mem_append.2 (.inr h)))
          · simp [HTS.out.1]
          · intro a ha
            rcases List.mem_append.1 ha with ha | ha
            · exact HUP.out a (HTS.out.2 a ha)
            · simp at ha; subst ha; exact HQ2.out
    · obtain rfl : j = gr.length := by omega
      have hO2 : EO (f1 + 1) d M l1 (gr.map ownOf ++ ns) := HO1.out.1.le (Nat.lt_succ_self _) (Nat.le_refl _) (Nat.le_refl _) (by have := HO1.out.2; rw [List.take_length] at this; exact this)
      have htl : ts.length = gr.length := HTS.out.1
      have HTY : Hid (∀ a ∈ ts, tyB s1.m a) := HTS.out.2
      have hform : ∃ tg, ta = some ⟨tg, 0, none⟩ ∧ tg < wr.heap.size := by
        rcases HROW.out.2 with ⟨_, h⟩ | ⟨tg, cap, cur, hv, hg, hh, _⟩
        · omega
        · injection hv with hv
          exact ⟨tg, hv, (Array.getElem?_eq_some_iff.1 hh).1⟩
      obtain ⟨tg, rfl, htg⟩ := hform
      have HCA : Hid (∀ (w' : World), w'.ownsRow w.heap.size 50 1 (.slice (some ⟨tg, 0, none⟩) gr.length tc) gr.length (ts.map ptrV) → ∀ i (hi : i < gr.length), tg < w'.heap.size ∧ w'.cell? ⟨tg, i, none⟩ = some (.pointer (some ⟨ts[i], 0, none⟩))) := by
        intro w' h i hi
        refine ⟨(h.lt tg rfl).2, ?_⟩
        rw [World.ownsRow.cellAt h i (by omega)]
        simp [htl, hi, ptrV]
      obtain ⟨-, ct0⟩ := HCA.out _ HROW.out 0 hpos
      have h0t : 0 < ts.length := by omega
      have HT0 : Hid (tyB s1.m ts[0]) := HTY.out _ (List.getElem_mem h0t)
      generalize ts[0] = t0 at *
      clear HTS HO1 HSEP
      go_wp2_with fail
      go_loopg [13, 14] gr.length (fun mm rv iv wr' => ∃ (j : Nat) (s3 : TyS) (c3 U' V' r : Nat), iv = .int .i64 j ∧ j ≤ gr.length ∧ mm = gr.length - j ∧ rv = .pointer (some ⟨r, 0, none⟩) ∧ tyB s3.m r ∧ Stp y base w s wr' s3 c3 ∧ CtF N (gr.map ownOf ++ ns) (gr.drop j) U' V' ∧ c3 + (M * U' + V') ≤ c ∧ EnT wr' base l1 bp1 s3 ∧ wr'.ownsRow w.heap.size 50 1 (.slice (some ⟨tg, 0, none⟩) gr.length tc) gr.length (ts.map ptrV) ∧ ∀ a ∈ ts, tyB s3.m a)
      case atStart => exact ⟨0, s1, _, U, V0, t0, rfl, Nat.zero_le _, rfl, rfl, HT0.out, HS1.out, HF.out, by omega, HE1.out, HROW.out, HTY.out⟩
      case round =>
        obtain ⟨j, s3, c3, U', V', r, rfl, hj, hm, rfl, hrt, hS3, hC3, hc3, hE3, hrow3, hty3⟩ := hrel
        have HMM2 : Hid (gk = gr.length - j) := hm
        have HS3 : Hid (Stp y base w s wr s3 c3) := hS3
        have hbs3 : gb < wr.heap.size := Nat.lt_of_lt_of_le (by omega : gb < w.heap.size) hS3.fr.size
        clear hm
        by_cases hlt : j < gr.length
        · obtain ⟨pv, hcell, hNs⟩ := HR.out j hlt
          rw [List.drop_eq_getElem_cons hlt] at hC3
          obtain ⟨x, o, b, ub, vb, U2, V2, hgj, hCt, hC2, hu, hv⟩ := hC3
          have hsum := cost_sum3 (M := M) hu hv
          have hwj := wts_get hlt
          rw [hgj] at hNs hwj
          rw [wt_nd, wts_cons] at hwj
          have hcell3 := hS3.cell H0.out hgb hcell
          obtain ⟨pb, rfl, hpb, -⟩ := hNs.ptr
          have hpb : pb < base := by omega
          obtain ⟨-, -, cown⟩ := hNs.cells
          have hq3 := hS3.pot
          have hpbs3 : pb < wr.heap.size := by have := hS3.cy.size; omega
          have HX : Hid (Calls Tryz.prog 46 #[.pointer (some ⟨y, 0, none⟩), .pointer (some ⟨pb, 0, none⟩), .pointer o1] wr (Ty1 y base wr s3 s3 (0 + (M * ub + vb + 2)))) := function_at (c := M * ub + vb + 2) IH hS3.cy (Stp.refl hS3.cy) hE3 ho1 hO2 hCt (by omega) (hS3.nd H0.out hNs) (by omega) (by omega)
          have HC2 : Hid (CtF N (gr.map ownOf ++ ns) (gr.drop (j + 1)) U2 V2) := hC2
          have HE3 : Hid (EnT wr base l1 bp1 s3) := hE3
          have HROW3 : Hid (wr.ownsRow w.heap.size 50 1 (.slice (some ⟨tg, 0, none⟩) gr.length tc) gr.length (ts.map ptrV)) := hrow3
          have HTY3 : Hid (∀ a ∈ ts, tyB s3.m a) := hty3
          have hjt : j < ts.length := by omega
          clear hS3 hE3 hrow3 hty3 hC2 hCt hNs hgj
          go_wp2_with fail
          refine HX.out.mono ?_
          rintro e w4 ⟨s4, q4, rfl, hS4, hq4, hu4⟩
          have hS4' := HS3.out.trans H0.out hS4
          have HS4 : Hid (Stp y base w s w4 s4 (c3 + (0 + (M * ub + vb + 2)))) := hS4'
          have HE4 : Hid (EnT w4 base l1 bp1 s4) := HE3.out.stp HS3.out.cy hS4
          have HROW4 : Hid (w4.ownsRow w.heap.size 50 1 (.slice (some ⟨tg, 0, none⟩) gr.length tc) gr.length (ts.map ptrV)) := row_stp HS3.out.cy hS4 HROW3.out
          have HTY4 : Hid (∀ a ∈ ts, tyB s4.m a) := fun a ha => hu4 a (HTY3.out a ha)
          have hrt4 := hu4 _ hrt
          obtain ⟨htg4, ct4⟩ := HCA.out _ HROW4.out j hlt
          have htj : tyB s4.m ts[j] := HTY4.out _ (List.getElem_mem hjt)
          have hp4 := hS4'.pot
          have HXS : Hid (Calls Tryz.prog 50 #[.pointer (some ⟨y, 0, none⟩), .pointer (some ⟨q4, 0, none⟩), .pointer (some ⟨ts[j], 0, none⟩)] w4 fun e w' => e = .returned (.tuple #[]) ∧ ∃ s', Stp y base w4 s4 w' s' 0 ∧ ∀ a, tyB s4.m a → tyB s'.m a) := same_at HS4.out.cy (Stp.refl HS4.out.cy) hq4 htj (by omega)
          have HTJ : Hid (∀ s' : TyS, (∀ a ∈ ts, tyB s'.m a) → tyB s'.m ts[j]) := fun s' h => h _ (List.getElem_mem hjt)
          have HCJ : Hid (∀ (w' : World), w'.ownsRow w.heap.size 50 1 (.slice (some ⟨tg, 0, none⟩) gr.length tc) gr.length (ts.map ptrV) → tg < w'.heap.size ∧ w'.cell? ⟨tg, j, none⟩ = some (.pointer (some ⟨ts[j], 0, none⟩))) := fun w' h => HCA.out w' h j hlt
          clear hS4 hS4' HX htj hu4 hrt HCA
          generalize ts[j] = tj at *
          go_wp2_with fail
          refine HXS.out.mono ?_
          rintro e w5 ⟨rfl, s5, hS5, hu5⟩
          have hS5' := HS4.out.trans H0.out hS5
          have HS5 : Hid (Stp y base w s w5 s5 (c3 + (0 + (M * ub + vb + 2)) + 0)) := hS5'
          have HE5 : Hid (EnT w5 base l1 bp1 s5) := HE4.out.stp HS4.out.cy hS5
          have HROW5 : Hid (w5.ownsRow w.heap.size 50 1 (.slice (some ⟨tg, 0, none⟩) gr.length tc) gr.length (ts.map ptrV)) := row_stp HS4.out.cy hS5 HROW4.out
          have HTY5 : Hid (∀ a ∈ ts, tyB s5.m a) := fun a ha => hu5 a (HTY4.out a ha)
          have HTJ5 : Hid (tyB s5.m tj) := HTJ.out s5 HTY5.out
          have hrt5 := hu5 _ hrt4
          obtain ⟨htg5, ct5⟩ := HCJ.out _ HROW5.out
          have hcell5 := hS5'.cell H0.out hgb hcell
          have cown5 := hS5'.cell H0.out hpb cown
          have hbs5 : gb < w5.heap.size := by have := hS5'.cy.size; omega
          have hpbs5 : pb < w5.heap.size := by have := hS5'.cy.size; omega
          clear hS5 hS5' hu5 hrt4 HXS HTJ HCJ
          cases hon : (o == n) with
          | true =>
            go_wp2_with fail
            go_roundg (gr.length - (j + 1))
            case measure => rw [HMM2.out]; omega
            case rel => exact ⟨j + 1, s5, _, U2, V2, tj, by go_num, by omega, rfl, rfl, HTJ5.out, HS5.out, HC2.out, by omega, HE5.out, HROW5.out, HTY5.out⟩
          | false =>
            go_wp2_with fail
            go_roundg (gr.length - (j + 1))
            case measure => rw [HMM2.out]; omega
            case rel => exact ⟨j + 1, s5, _, U2, V2, r, by go_num, by omega, rfl, rfl, hrt5, HS5.out, HC2.out, by omega, HE5.out, HROW5.out, HTY5.out⟩
        · obtain rfl : j = gr.length := by omega
          clear hS3 hC3 hE3 hrow3 hty3
          go_wp2_with fail
          go_ret
          exact ⟨s3, r, rfl, HS3.out.le (by omega), hrt⟩
end
end Go.Proofs.YtnbhnjokpcdnnaaGreatDoor

namespace Go.Proofs.YtnbhnjokpcdnnaaGreatDoor
open Go.RowKit

section
variable {y base K : Nat} {w : World} {s : TyS} {l : List EN} {bp : Nat → Value} {ns : List (List UInt8)} {f d M N c : Nat}

theorem group_at (IH : ExOk y base K) (hK : K ≤ 1000) {w1 : World} {s1 : TyS} {c1 : Nat} {n : List UInt8} {gr : List Code} {gb gc gl U V : Nat} {o0 : Option Addr} (hne : gr ≠ []) (h0 : Cy y base w s) (h1 : Stp y base w s w1 s1 c1) (hE : EnT w1 base l bp s1) (ho : bp 0 = .pointer o0) (hO : EO f d M l ns) (hC : CtG (Cst N) (gr.map ownOf ++ ns) gr U V) (hd : d + wts gr ≤ K) (hgb : gb < base) (hr : ∀ i (hi : i < gr.length), ∃ v, w1.cell? ⟨gb, i, none⟩ = some v ∧ Nd w1 (fun b => base ≤ b) gr[i] v) (hgl : gr.length = gl) (hp : pot w s + (c : Int) ≤ 9223372036854775807) (hc : c1 + (M * U + V) ≤ c) :
    Calls Tryz.prog 48 #[.pointer (some ⟨y, 0, none⟩), .string (bs n), .slice (some ⟨gb, 0, none⟩) gl gc, .pointer o0] w1 (Ty1 y base w s s1 (c1 + (M * U + V))) := by
  have q2 := h1.pot
  subst hgl
  rw [← ho]
  exact (group_ref (c := M * U + V) IH hK hne h1.cy hE hO hC hd hgb hr (Nat.le_refl _) (by omega)).mono fun e w' h => Ty1.of h0 h1 (Nat.le_refl _) h

theorem sl_nil (w : World) : (binOp .neq 68 (.slice none 0 0) (.slice none 0 0)).run Tryz.prog w = .ok (.bool false) w := by
  have hu := Tryz.underlying68
  have h : ∀ d : Nat, (Op.equalIn (d + 1) 68 (.slice none 0 0) (.slice none 0 0)).run Tryz.prog w = .ok true w := fun d => by
    simp [Op.equalIn, run_underlying hu]
  simp only [binOp]
  simp [Op.equal, Op.maxDepth, h 9999]
theorem sl_some (a : Addr) (n c : Nat) (w : World) : (binOp .neq 68 (.slice (some a) n c) (.slice none 0 0)).run Tryz.prog w = .ok (.bool true) w := by
  have hu := Tryz.underlying68
  have h : ∀ d : Nat, (Op.equalIn (d + 1) 68 (.slice (some a) n c) (.slice none 0 0)).run Tryz.prog w = .ok false w := fun d => by
    simp [Op.equalIn, run_underlying hu]
  simp only [binOp]
  simp [Op.equal, Op.maxDepth, h 9999]

set_option maxHeartbeats 6400000 in
set_option maxRecDepth 100000 in
theorem look_ref (IH : ExOk y base K) (hK : K ≤ 1000) {n : List UInt8} {o0 : Option Addr} (h0 : Cy y base w s) (hE : EnT w base l bp s) (ho : bp 0 = .pointer o0) (hO : EO f d M l ns) (hn : n ∈ ns) (hd : d < K) (hp : pot w s + (M : Int) ≤ 9223372036854775807) :
    Calls Tryz.prog 45 #[.pointer (some ⟨y, 0, none⟩), .string (bs n), .pointer o0] w (Ty1 y base w s s M) := by
  cases f with
  | zero => exact hO.elim
  | succ f =>
    obtain ⟨hnm, hent⟩ := hO
    obtain ⟨e0, he0, hen0⟩ := hnm n hn
    obtain ⟨i0, hi0, hi1⟩ := List.getElem_of_mem he0
    have hi0' : l[i0]? = some e0 := by rw [List.getElem?_eq_getElem hi0, hi1]
    have H0 : Hid (Cy y base w s) := h0
    have HE : Hid (EnT w base l bp s) := hE
    have HENT : Hid (∀ i e, l[i]? = some e → (e.ex = none ∧ e.gr = [] ∧ e.ty ≠ none) ∨
      (∃ a ns' d' M' ua va N, e.ex = some a ∧ e.gr = [] ∧ EO f d' M' (l.drop (i + 1 + e.out)) ns' ∧ Cst N ns' a ua va ∧ d' + wt a ≤ d ∧ M' * ua + va ≤ M) ∨
      (∃ ns' d' M' U V N, e.ex = none ∧ e.gr ≠ [] ∧ EO f d' M' (l.drop (i + 1 + e.out)) ns' ∧ CtG (Cst N) (e.gr.map ownOf ++ ns') e.gr U V ∧ d' + wts e.gr ≤ d ∧ M' * U + V ≤ M)) := hent
    have HI0 : Hid (l[i0]? = some e0 ∧ e0.nm = n) := ⟨hi0', hen0⟩
    clear h0 hE hent hnm hi0' hi1 hen0 he0
    go_enter Tryz.func45, Tryz.ntmps45
    go_wp2_with fail
    go_loopg [2] i0 (fun mm bv wr => ∃ (j : Nat), bv = bp j ∧ j ≤ i0 ∧ mm = i0 - j ∧ wr = w)
    case atStart => exact ⟨0, ho.symm, Nat.zero_le _, rfl, rfl⟩
    case round =>
      obtain ⟨j, hbv, hj, hm, rfl⟩ := hrel
      have HMM : Hid (gk = i0 - j) := hm
      clear hm
      have hjl : j < l.length := by omega
      have hej : l[j]? = some l[j] := List.getElem?_eq_getElem hjl
      obtain ⟨b, ev, gv, ov, hbj, hbb, hblk, hex, hgr, hout⟩ := HE.out.env.at_ j l[j] hej
      have hlt : b < wr.heap.size := (Array.getElem?_eq_some_iff.1 hblk).1
      have f0 : wr.cell? ⟨b, 0, none⟩ = some (.string (bs l[j].nm)) := by simp [World.cell?, hblk]
      have f1 : wr.cell? ⟨b, 1, none⟩ = some (optV l[j].ty) := by simp [World.cell?, hblk]
      have f2 : wr.cell? ⟨b, 2, none⟩ = some ev := by simp [World.cell?, hblk]
      have f3 : wr.cell? ⟨b, 3, none⟩ = some gv := by simp [World.cell?, hblk]
      have f4 : wr.cell? ⟨b, 4, none⟩ = some ov := by simp [World.cell?, hblk]
      have f5 : wr.cell? ⟨b, 5, none⟩ = some (bp (j + 1)) := by simp [World.cell?, hblk]
      rw [hbj] at hbv
      subst hbv
      cases hnm : (l[j].nm == n) with
      | false =>
        have hjne : j ≠ i0 := by
          rintro rfl
          have h1 := HI0.out.1
          rw [hej] at h1
          injection h1 with h1
          have h2 := HI0.out.2
          rw [← h1] at h2
          rw [h2] at hnm
          simp at hnm
        obtain ⟨b', -, -, -, hbj', -⟩ := HE.out.env.at_ (j + 1) (l[j + 1]'(by omega)) (List.getElem?_eq_getElem (by omega))
        rw [hbj'] at f5
        have HB : Hid (Value.pointer (some ⟨b', 0, none⟩) = bp (j + 1)) := hbj'.symm
        clear hblk hex hgr hout hbj' hej hbj
        generalize l[j] = e at *
        cases e with
        | mk nm ty ex gr out =>
          simp only at f0 f1 hnm
          go_wp2_with fail
          go_roundg (i0 - (j + 1))
          case measure => rw [HMM.out]; omega
          case rel => exact ⟨j + 1, HB.out, by omega, rfl, rfl⟩
      | true =>
        have hcase := HENT.out j l[j] hej
        have hty := HE.out.ty l[j] (List.getElem_mem hjl)
        have HD : Hid (∀ k, j + 1 + k ≤ l.length → EnT wr base (l.drop (j + 1 + k)) (fun i => bp (i + (j + 1 + k))) s) := fun k hk => HE.out.drop hk
        clear hblk hej hbj f5
        generalize l[j] = e at *
        obtain ⟨nm, ty, ex, gr, out⟩ := e
        simp only at f0 f1 hnm hex hgr hout hcase hty
        rcases hcase with ⟨rfl, rfl, hne⟩ | ⟨a, ns', d', M', ua, va, N, rfl, rfl, hO', hC', hd', hM'⟩ | ⟨ns', d', M', U, V, N, rfl, hgne, hO', hC', hd', hM'⟩
        · obtain ⟨q, rfl⟩ := Option.ne_none_iff_exists'.1 hne
          have hq := hty q rfl
          obtain rfl : ev = .pointer none := hex
          obtain rfl : gv = .slice none 0 0 := by
            rcases hgr with ⟨-, h⟩ | ⟨h, -⟩
            · exact h
            · exact absurd rfl h
          simp only [optV] at f1
          have HQ : Hid (tyB s.m q) := hq
          clear hgr hout hty hq hne
          have hsn := sl_nil wr
          go_wp2_with fail
          go_ret
          exact ⟨s, q, rfl, (Stp.refl H0.out).le (Nat.zero_le _), HQ.out, fun _ h => h⟩
        · obtain ⟨hk, rfl⟩ := hout (.inl (by simp))
          obtain rfl : gv = .slice none 0 0 := by
            rcases hgr with ⟨-, h⟩ | ⟨h, -⟩
            · exact h
            · exact absurd rfl h
          have hNd : Nd wr (fun b => base ≤ b) a ev := hex
          obtain ⟨pb, rfl, -, -⟩ := hNd.ptr
          have hE2 := HD.out out hk
          obtain ⟨o2, ho2⟩ := hE2.env.ptr
          have ho2' : bp (j + 1 + out) = .pointer o2 := by rw [← ho2]; simp only [Nat.zero_add]
          rw [ho2'] at f4
          have HX : Hid (∀ w2, Fr (fun _ => False) wr w2 → Calls Tryz.prog 24 #[.pointer (some ⟨y, 0, none⟩), .pointer (some ⟨pb, 0, none⟩), .pointer o2] w2 (Ty1 y base wr s s (0 + (M' * ua + va)))) := fun w2 hF => exp_at (c := M) IH H0.out (Stp.grow H0.out hF) (hE2.stp H0.out (Stp.grow H0.out hF)) ho2 hO' hC' (by omega) ((Stp.grow H0.out hF).nd H0.out hNd) hp (by omega)
          have hsn := sl_nil wr
          clear hex hgr hout hty hNd hE2 ho2 ho2' hO' hC'
          go_wp2_with fail
          go_region_law (rw [if_pos (by simp [Region.wanted])]; unfold Oper.wp; go_simp; go_at_call 24; refine (HX.out _ (by repeat (first | exact Fr.refl _ _ | (refine Fr.setCell ?_ (by first | exact .inl rfl | exact .inr (Nat.le_refl _) | (right; simp; omega)) _) | refine Fr.drewN ?_ _ | refine Fr.drew ?_ | refine Fr.alloc ?_ _))).mono ?_; rintro e w2 ⟨s2, q2, rfl, hS2, hq2, hu2⟩)
          all_goals
            have HS2 : Hid (Stp y base wr s w2 s2 (0 + (M' * ua + va))) := hS2
            clear hS2
            go_wp2_with fail
            go_ret
            exact ⟨s2, q2, rfl, HS2.out.le (by omega), hq2, hu2⟩
        · obtain ⟨hk, rfl⟩ := hout (.inr hgne)
          obtain rfl : ev = .pointer none := hex
          obtain ⟨gb, gc, rfl, -, hgb, hrow⟩ := (hgr.resolve_left (fun h => hgne h.1)).2
          have hE2 := HD.out out hk
          obtain ⟨o2, ho2⟩ := hE2.env.ptr
          have ho2' : bp (j + 1 + out) = .pointer o2 := by rw [← ho2]; simp only [Nat.zero_add]
          rw [ho2'] at f4
          have HX : Hid (∀ w2, Fr (fun _ => False) wr w2 → Calls Tryz.prog 48 #[.pointer (some ⟨y, 0, none⟩), .string (bs n), .slice (some ⟨gb, 0, none⟩) gr.length gc, .pointer o2] w2 (Ty1 y base wr s s (0 + (M' * U + V)))) := fun w2 hF => group_at (c := M) IH hK hgne H0.out (Stp.grow H0.out hF) (hE2.stp H0.out (Stp.grow H0.out hF)) ho2 hO' hC' (by omega) hgb (fun i hi => by obtain ⟨v, h1, h2⟩ := hrow i hi; exact ⟨v, (Stp.grow H0.out hF).cell H0.out hgb h1, (Stp.grow H0.out hF).nd H0.out h2⟩) rfl hp (by omega)
          clear hgr hout hty hE2 ho2 ho2' hO' hC' hrow
          have hsn := sl_some ⟨gb, 0, none⟩ gr.length gc wr
          go_wp2_with fail
          go_region_law (rw [if_pos (by simp [Region.wanted])]; unfold Oper.wp; go_simp; go_at_call 48; refine (HX.out _ (by repeat (first | exact Fr.refl _ _ | (refine Fr.setCell ?_ (by first | exact .inl rfl | exact .inr (Nat.le_refl _) | (right; simp; omega)) _) | refine Fr.drewN ?_ _ | refine Fr.drew ?_ | refine Fr.alloc ?_ _))).mono ?_; rintro e w2 ⟨s2, q2, rfl, hS2, hq2, hu2⟩)
          all_goals
            have HS2 : Hid (Stp y base wr s w2 s2 (0 + (M' * U + V))) := hS2
            clear hS2
            go_wp2_with fail
            go_ret
            exact ⟨s2, q2, rfl, HS2.out.le (by omega), hq2, hu2⟩
end
end Go.Proofs.YtnbhnjokpcdnnaaGreatDoor

namespace Go.Proofs.YtnbhnjokpcdnnaaGreatDoor
open Go.RowKit

section
variable {y base K : Nat} {w : World} {s : TyS} {l : List EN} {bp : Nat → Value} {ns : List (List UInt8)} {f d M N c : Nat} {k nm ow : List UInt8} {z : Int} {p : Value} {pats : List Code}

set_option maxHeartbeats 3200000 in
set_option maxRecDepth 100000 in
theorem exp_bad (h0 : Cy y base w s) (hE : EnT w base l bp s) {t : Code} (hbad : s.bad = true) (hN : Nd w (fun b => base ≤ b) t p) (hc : 1 ≤ c) : Calls Tryz.prog 24 #[ptrV y, p, bp 0] w (TyR y base w s c) := by
  obtain ⟨bb, rfl, hbX, hblt⟩ := hN.ptr
  obtain ⟨o0, ho⟩ := hE.env.ptr
  obtain ⟨hyl, hy0, -, -⟩ := h0.ty.cells
  rw [hbad] at hy0
  rw [ho]
  have H0 : Hid (Cy y base w s) := h0
  clear h0 hE hN
  simp only [ptrV]
  go_enter Tryz.func24, Tryz.ntmps24
  go_wp2_with fail
  refine (kind0_at (k := []) H0.out (Stp.refl H0.out) (by decide) (by decide)).mono ?_
  rintro e w1 ⟨s1, q1, rfl, hS1, hq1, hu1⟩
  have HS1 : Hid (Stp y base w s w1 s1 (0 + 1)) := hS1
  clear hS1
  go_wp2_with fail
  go_ret
  exact ⟨s1, q1, rfl, HS1.out.le (by omega), hq1⟩

set_option maxHeartbeats 3200000 in
set_option maxRecDepth 100000 in
theorem exp_ctl (hk : k = [116, 114, 121] ∨ k = [109, 97, 116, 99, 104] ∨ k = [99, 97, 108, 108, 99, 99] ∨ k = [116, 104, 114, 111, 119]) (h0 : Cy y base w s) (hE : EnT w base l bp s) {subs : List Code} (hbad : s.bad = false) (hN : Nd w (fun b => base ≤ b) (nd k z nm ow subs pats) p) (hX : Calls Tryz.prog 51 #[ptrV y, p, bp 0] w (TyR y base w s c)) : Calls Tryz.prog 24 #[ptrV y, p, bp 0] w (TyR y base w s c) := by
  obtain ⟨bb, rfl, hbX, hblt⟩ := hN.ptr
  obtain ⟨o0, ho⟩ := hE.env.ptr
  obtain ⟨hyl, hy0, -, -⟩ := h0.ty.cells
  rw [hbad] at hy0
  obtain ⟨c0, -, -⟩ := hN.cells
  have qq0 : (k == [110, 117, 109]) = false := by rcases hk with rfl | rfl | rfl | rfl <;> decide
  have qq1 : (k == [114, 101, 97, 100]) = false := by rcases hk with rfl | rfl | rfl | rfl <;> decide
  have qq2 : (k == [98, 111, 111, 108]) = false := by rcases hk with rfl | rfl | rfl | rfl <;> decide
  have qq3 : (k == [110, 105, 108]) = false := by rcases hk with rfl | rfl | rfl | rfl <;> decide
  have qq4 : (k == [118, 97, 114]) = false := by rcases hk with rfl | rfl | rfl | rfl <;> decide
  have qq5 : (k == [102, 110]) = false := by rcases hk with rfl | rfl | rfl | rfl <;> decide
  have qq6 : (k == [108, 101, 116]) = false := by rcases hk with rfl | rfl | rfl | rfl <;> decide
  have qq7 : (k == [114, 101, 99]) = false := by rcases hk with rfl | rfl | rfl | rfl <;> decide
  have qq8 : (k == [105, 102]) = false := by rcases hk with rfl | rfl | rfl | rfl <;> decide
  have qq9 : (k == [112, 97, 105, 114]) = false := by rcases hk with rfl | rfl | rfl | rfl <;> decide
  have qq10 : (k == [99, 111, 110, 115]) = false := by rcases hk with rfl | rfl | rfl | rfl <;> decide
  have qq11 : (k == [99, 97, 108, 108]) = false := by rcases hk with rfl | rfl | rfl | rfl <;> decide
  have qq12 : (k == [43]) = false := by rcases hk with rfl | rfl | rfl | rfl <;> decide
  have qq13 : (k == [45]) = false := by rcases hk with rfl | rfl | rfl | rfl <;> decide
  have qq14 : (k == [42]) = false := by rcases hk with rfl | rfl | rfl | rfl <;> decide
  have qq15 : (k == [47]) = false := by rcases hk with rfl | rfl | rfl | rfl <;> decide
  have qq16 : (k == [112, 114, 105, 110, 116]) = false := by rcases hk with rfl | rfl | rfl | rfl <;> decide
  have qq17 : (k == [61]) = false := by rcases hk with rfl | rfl | rfl | rfl <;> decide
  have qq18 : (k == [60]) = false := by rcases hk with rfl | rfl | rfl | rfl <;> decide
  have qq19 : (k == [114, 97, 105, 115, 101]) = false := by rcases hk with rfl | rfl | rfl | rfl <;> decide
  clear hk
  rw [ho] at hX ⊢
  have HX : Hid (Calls Tryz.prog 51 #[.pointer (some ⟨y, 0, none⟩), .pointer (some ⟨bb, 0, none⟩), .pointer o0] w (TyR y base w s c)) := hX
  clear h0 hE hN hX
  simp only [ptrV]
  go_enter Tryz.func24, Tryz.ntmps24
  go_wp2_with fail
  refine HX.out.mono ?_
  rintro e w1 ⟨s1, q1, rfl, hS1, hq1⟩
  have HS1 : Hid (Stp y base w s w1 s1 c) := hS1
  clear hS1
  simp only [ptrV]
  go_wp2_with fail
  go_ret
  exact ⟨s1, q1, rfl, HS1.out, hq1⟩

set_option maxHeartbeats 3200000 in
set_option maxRecDepth 100000 in
theorem exp_var (IH : ExOk y base K) (hk : k = [118, 97, 114]) (h0 : Cy y base w s) (hE : EnT w base l bp s) (hO : EO f d M l ns) (hbad : s.bad = false) (hK : K ≤ 1000) (hn : nm ∈ ns) (hdK : d < K) (hN : Nd w (fun b => base ≤ b) (nd k z nm ow [] pats) p) (hc : M ≤ c) (hp : pot w s + (c : Int) ≤ 9223372036854775807) :
    Calls Tryz.prog 24 #[ptrV y, p, bp 0] w (TyR y base w s c) := by
  obtain ⟨bb, rfl, hbX, hblt⟩ := hN.ptr
  obtain ⟨o0, ho⟩ := hE.env.ptr
  obtain ⟨hyl, hy0, -, -⟩ := h0.ty.cells
  rw [hbad] at hy0
  obtain ⟨c0, c2, -⟩ := hN.cells
  have qq0 : (k == [110, 117, 109]) = false := by subst hk; decide
  have qq1 : (k == [114, 101, 97, 100]) = false := by subst hk; decide
  have qq2 : (k == [98, 111, 111, 108]) = false := by subst hk; decide
  have qq3 : (k == [110, 105, 108]) = false := by subst hk; decide
  have qq4 : (k == [118, 97, 114]) = true := by subst hk; decide
  clear hk
  rw [ho]
  have HS0 : Hid (Stp y base w s w s 0) := Stp.refl h0
  have H0 : Hid (Cy y base w s) := h0
  have HE0 : Hid (EnT w base l bp s) := hE
  have hbb : bb < base := by omega
  have HN : Hid (Nd w (fun b => base ≤ b) (nd k z nm ow [] pats) (.pointer (some ⟨bb, 0, none⟩))) := hN
  clear h0 hE hN
  simp only [ptrV]
  go_enter Tryz.func24, Tryz.ntmps24
  go_wp2_with fail
  refine (look_ref IH hK H0.out HE0.out ho hO hn hdK (by omega)).mono ?_
  rintro e w1 ⟨s1, q1, rfl, hS1, hq1, hu1⟩
  have HS1 : Hid (Stp y base w s w1 s1 (M)) := hS1
  have hb1 : bb < w1.heap.size := Nat.lt_of_lt_of_le hblt hS1.fr.size
  have c0_1 := hS1.cell H0.out hbb c0
  have c2_1 := hS1.cell H0.out hbb c2
  have HE1 : Hid (EnT w1 base l bp s1) := HE0.out.stp H0.out hS1
  have t1_1 := hq1
  clear hS1 hu1 hq1
  go_wp2_with fail
  go_ret
  exact ⟨s1, q1, rfl, HS1.out.le (by omega), t1_1⟩
end
end Go.Proofs.YtnbhnjokpcdnnaaGreatDoor

namespace Go.Proofs.YtnbhnjokpcdnnaaGreatDoor
open Go.RowKit

section
variable {y base K : Nat} {w : World} {s : TyS} {l : List EN} {bp : Nat → Value} {ns : List (List UInt8)} {f d M N c : Nat} {k nm ow : List UInt8} {z : Int} {p : Value} {pats : List Code}

set_option maxHeartbeats 6400000 in
set_option maxRecDepth 100000 in
theorem exp_rec (IH : ExOk y base K) (hK : K ≤ 1000) (hk : k = [114, 101, 99]) (h0 : Cy y base w s) (hE : EnT w base l bp s) (hO : EO f d M l ns) (hbad : s.bad = false) {ds : List Code} {b : Code} {U V ub vb : Nat} (hne : ds ≠ []) (hU : 1 ≤ U) (hG : CtG (Cst N) (ds.map ownOf ++ ns) ds U V) (hCb : Cst N (ds.map ownOf ++ ns) b ub vb) (hd1 : d + wts ds ≤ K) (hd2 : d + wts ds + wt b < K) (hN : Nd w (fun b => base ≤ b) (nd k z nm ow (ds ++ [b]) pats) p) (hc : M * U + V + ((M * U + V) * ub + vb) ≤ c) (hp : pot w s + (c : Int) ≤ 9223372036854775807) :
    Calls Tryz.prog 24 #[ptrV y, p, bp 0] w (TyR y base w s c) := by
  obtain ⟨bb, rfl, hbX, hblt⟩ := hN.ptr
  obtain ⟨o0, ho⟩ := hE.env.ptr
  obtain ⟨hyl, hy0, -, -⟩ := h0.ty.cells
  rw [hbad] at hy0
  obtain ⟨c0, -, -⟩ := hN.cells
  have qq0 : (k == [110, 117, 109]) = false := by subst hk; decide
  have qq1 : (k == [114, 101, 97, 100]) = false := by subst hk; decide
  have qq2 : (k == [98, 111, 111, 108]) = false := by subst hk; decide
  have qq3 : (k == [110, 105, 108]) = false := by subst hk; decide
  have qq4 : (k == [118, 97, 114]) = false := by subst hk; decide
  have qq5 : (k == [102, 110]) = false := by subst hk; decide
  have qq6 : (k == [108, 101, 116]) = false := by subst hk; decide
  have qq7 : (k == [114, 101, 99]) = true := by subst hk; decide
  clear hk
  rw [ho]
  have H0 : Hid (Cy y base w s) := h0
  have HE0 : Hid (EnT w base l bp s) := hE
  obtain ⟨g, gc, hbb, hgb, k4, hgc, hsub⟩ := hN.subc (by simp)
  have hgl : g < w.heap.size := by have := h0.size; omega
  obtain ⟨V0, hF, -⟩ := hG.fs
  have hlw := hF.len
  have hdl : ds.length ≤ 1000 := by omega
  have HF : Hid (CtF N (ds.map ownOf ++ ns) ds U V0) := hF
  have HSUB : Hid (∀ i (hi : i < ds.length), ∃ v, w.cell? ⟨g, i, none⟩ = some v ∧ Nd w (fun b => base ≤ b) ds[i] v) := fun i hi => by
    obtain ⟨v, h1, h2⟩ := hsub i (by simp; omega)
    rw [List.getElem_append_left hi] at h2
    exact ⟨v, h1, h2⟩
  obtain ⟨pn, dn, nn⟩ := hsub ds.length (by simp)
  rw [List.getElem_append_right (Nat.le_refl _)] at nn
  simp only [Nat.sub_self, List.getElem_cons_zero] at nn
  have HNN : Hid (Nd w (fun b => base ≤ b) b pn) := nn
  simp only [List.length_append, List.length_cons, List.length_nil, Nat.zero_add] at k4 hgc
  have HG : Hid (Calls Tryz.prog 48 #[.pointer (some ⟨y, 0, none⟩), .string (bs []), .slice (some ⟨g, 0, none⟩) ds.length gc, .pointer o0] w (Ty1 y base w s s (0 + (M * U + V)))) := group_at (c := c) IH hK hne h0 (Stp.refl h0) hE ho hO hG hd1 hgb HSUB.out rfl hp (by omega)
  have HGG : Hid (CtG (Cst N) (ds.map ownOf ++ ns) ds U V) := hG
  clear h0 hE hN hsub nn hF hG
  simp only [ptrV]
  go_enter Tryz.func24, Tryz.ntmps24
  go_wp2_with fail
  refine HG.out.mono ?_
  rintro e w1 ⟨s1, q1, rfl, hS1, hq1, hu1⟩
  have HS1 : Hid (Stp y base w s w1 s1 (0 + (M * U + V))) := hS1
  have HE1 : Hid (EnT w1 base l bp s1) := HE0.out.stp H0.out hS1
  have hMU : M * 1 ≤ M * U := Nat.mul_le_mul_left _ hU
  clear hS1 hq1 hu1 HG
  go_wp2_with fail
  go_loopg [13, 14] ds.length (fun mm inv iv wr => ∃ (j : Nat) (L : List EN) (bpL : Nat → Value) (oL : Option Addr) (fL : Nat) (nsL : List (List UInt8)), iv = .int .i64 j ∧ j ≤ ds.length ∧ mm = ds.length - j ∧ inv = .pointer oL ∧ bpL 0 = .pointer oL ∧ Fr (fun _ => False) w1 wr ∧ EnT wr base L bpL s1 ∧ EO fL (d + wts ds) (M * U + V) L nsL ∧ L.drop j = l ∧ j ≤ L.length ∧ bpL j = .pointer o0 ∧ ∀ x ∈ (ds.take j).map ownOf ++ ns, x ∈ nsL)
  case atStart => exact ⟨0, l, bp, o0, f + 1, ns, rfl, Nat.zero_le _, rfl, rfl, ho, Fr.refl _ _, HE1.out, hO.le (Nat.lt_succ_self _) (by omega) (by omega) (fun _ h => h), rfl, Nat.zero_le _, ho, by simp⟩
  case round =>
    obtain ⟨j, L, bpL, oL, fL, nsL, rfl, hj, hm, rfl, hoL, hFr, hEL, hOL, hdr, hjL, hbj, hnL⟩ := hrel
    have HMM : Hid (gk = ds.length - j) := hm
    have hSr := HS1.out.trans H0.out (Stp.grow HS1.out.cy hFr)
    have HSR : Hid (Stp y base w s wr s1 (0 + (M * U + V) + 0)) := hSr
    have hzr := hSr.cy.size
    have HFR : Hid (Fr (fun _ => False) w1 wr) := hFr
    have HEL : Hid (EnT wr base L bpL s1) := hEL
    have HOL : Hid (EO fL (d + wts ds) (M * U + V) L nsL ∧ L.drop j = l ∧ ∀ x ∈ (ds.take j).map ownOf ++ ns, x ∈ nsL) := ⟨hOL, hdr, hnL⟩
    have hglr : g < wr.heap.size := by omega
    clear hm hFr hEL hOL hdr hnL
    by_cases hlt : j < ds.length
    · obtain ⟨pv, hcell, hNs⟩ := HSUB.out j hlt
      obtain ⟨x, o, b1, hgj⟩ := HF.out.at j hlt
      rw [hgj] at hNs
      have hcr := hSr.cell H0.out hgb hcell
      obtain ⟨pb, rfl, hpb, -⟩ := hNs.ptr
      have hpb : pb < base := by omega
      obtain ⟨-, -, cown⟩ := hNs.cells
      have cor := hSr.cell H0.out hpb cown
      have hpbr : pb < wr.heap.size := by omega
      have HGJ : Hid (ds[j] = nd [100, 101, 102] 0 x o [b1] []) := hgj
      clear hgj hNs hcell cown hSr
      go_wp2_with fail
      go_roundg (ds.length - (j + 1))
      case measure => rw [HMM.out]; omega
      case rel =>
        have hFb : Fr (fun _ => False) wr (wr.alloc (.cells #[.string (bs o), .pointer none, .pointer none, .slice (some ⟨g, 0, none⟩) ds.length gc, .pointer o0, .pointer oL] 107)) := (Fr.refl _ wr).alloc _
        have hGb := Stp.grow HSR.out.cy hFb
        have hSb := HSR.out.trans H0.out hGb
        refine ⟨j + 1, ⟨o, none, none, ds, j⟩ :: L, _, some ⟨wr.heap.size, 0, none⟩, max f fL + 1 + 1, o :: nsL, by go_num, by omega, rfl, rfl, rfl, HFR.out.trans hFb (fun _ h => .inl h), (HEL.out.stp HSR.out.cy hGb).cons (e := ⟨o, none, none, ds, j⟩) hzr (by rw [hoL]; exact (MapKept.heap_alloc wr _).1) rfl (.inr ⟨hne, g, gc, rfl, Nat.lt_of_lt_of_le hglr hGb.fr.size, hgb, fun i hi => ?_⟩) (fun _ => ⟨hjL, hbj.symm⟩) (by simp), EO.push (e := ⟨o, none, none, ds, j⟩) (HOL.out.1.le (by omega) (Nat.le_refl _) (Nat.le_refl _) (fun _ h => h)) (.inr (.inr ⟨ns, d, M, U, V, N, rfl, hne, ?_, HGG.out, Nat.le_refl _, Nat.le_refl _⟩)), ?_, by simp; omega, hbj, ?_⟩
        · obtain ⟨v, h1, h2⟩ := HSUB.out i hi
          exact ⟨v, hSb.cell H0.out hgb h1, hSb.nd H0.out h2⟩
        · show EO _ d M (L.drop j) ns
          rw [HOL.out.2.1]
          exact hO.le (by omega) (Nat.le_refl _) (Nat.le_refl _) (fun _ h => h)
        · show L.drop j = l
          exact HOL.out.2.1
        · intro u hu
          rw [List.take_succ_eq_append_getElem hlt, List.map_append, List.map_singleton, HGJ.out, ownOf_nd, List.append_assoc] at hu
          rcases List.mem_append.1 hu with h | h
          · exact List.mem_cons_of_mem _ (HOL.out.2.2 u (List.mem_append.2 (.inl h)))
          · rcases List.mem_append.1 h with h | h
            · simp at h; subst h; exact List.mem_cons_self
            · exact List.mem_cons_of_mem _ (HOL.out.2.2 u (List.mem_append.2 (.inr h)))
    · obtain rfl : j = ds.length := by omega
      have hOf : EO (fL + 1) (d + wts ds) (M * U + V) L (ds.map ownOf ++ ns) := HOL.out.1.le (Nat.lt_succ_self _) (Nat.le_refl _) (Nat.le_refl _) (by have := HOL.out.2.2; rw [List.take_length] at this; exact this)
      have hbr : bb < wr.heap.size := Nat.lt_of_lt_of_le hblt hSr.fr.size
      have k4r := hSr.cell H0.out hbb k4
      have dnr := hSr.cell H0.out hgb dn
      have HX : Hid (Calls Tryz.prog 24 #[.pointer (some ⟨y, 0, none⟩), pn, .pointer oL] wr (Ty1 y base w s s1 (0 + (M * U + V) + 0 + ((M * U + V) * ub + vb)))) := exp_at (c := c) IH H0.out hSr HEL.out hoL hOf hCb hd2 (hSr.nd H0.out HNN.out) hp (by omega)
      clear hSr HOL
      go_wp2_with fail
      refine HX.out.mono ?_
      rintro e w2 ⟨s2, q2, rfl, hS2, hq2, -⟩
      have HS2 : Hid (Stp y base w s w2 s2 (0 + (M * U + V) + 0 + ((M * U + V) * ub + vb))) := hS2
      clear hS2
      go_wp2_with fail
      go_ret
      exact ⟨s2, q2, rfl, HS2.out.le (by omega), hq2⟩
end
end Go.Proofs.YtnbhnjokpcdnnaaGreatDoor

namespace Go.Proofs.YtnbhnjokpcdnnaaGreatDoor
open Go.RowKit

theorem cost_let {M ua va ub vb u v : Nat} (h1 : ua * (1 + ub) ≤ u) (h2 : va * (1 + ub) + vb ≤ v) : M * ua + va + ((M * ua + va) * ub + vb) ≤ M * u + v := by
  have h3 : M * (ua * (1 + ub)) ≤ M * u := Nat.mul_le_mul_left _ h1
  rw [Nat.mul_add, Nat.mul_one, Nat.mul_add, ← Nat.mul_assoc] at h3
  rw [Nat.mul_add, Nat.mul_one] at h2
  rw [Nat.add_mul]
  omega

theorem cost_two {M ua ub u : Nat} (h1 : ua + ub ≤ u) : M * ua + M * ub ≤ M * u := by
  rw [← Nat.mul_add]
  exact Nat.mul_le_mul_left _ h1

theorem exp_step {y base K : Nat} (hK : K ≤ 1000) (IH : ExOk y base K) : ExOk y base (K + 1) := by
  intro w s l bp ns f d M N u v c t p h0 hE hO hC hd hN hc hp
  cases N with
  | zero => exact hC.elim
  | succ N =>
    obtain ⟨hu, hv, hC⟩ := hC
    cases hbad : s.bad with
    | true => exact exp_bad h0 hE hbad hN (by omega)
    | false =>
      rcases hC with ⟨k, z, hk, rfl, h2⟩ | ⟨x, rfl, hx⟩ | ⟨x, b, ub, vb, rfl, h2, h3, h4⟩ | ⟨x, a, b, ua, va, ub, vb, cc, rfl, h2, h3, h4, h5, h6⟩ | ⟨ds, b, U, V, ub, vb, rfl, h2, h3, h4, h5, h6, h7⟩ | ⟨k, a, b, ua, va, ub, vb, cc, h1, rfl, h3, h4, h5, h6⟩ | ⟨k, a, ua, va, h1, rfl, h3, h4, h5⟩ | ⟨a, b, x, ua, va, ub, vb, ux, vx, rfl, h2, h3, h4, h5, h6⟩ | ⟨x, a, b, ua, va, ub, vb, rfl, h2, h3, h4, h5⟩ | ⟨a, bs', qs, ua, va, U, V, rfl, h2, h3, h4, h5⟩
      · rcases hk with rfl | rfl | rfl | rfl
        · exact exp_num IH rfl h0 hE hO hbad hN (by omega) hp
        · exact exp_read IH rfl h0 hE hO hbad hN (by omega) hp
        · exact exp_bool IH rfl h0 hE hO hbad hN (by omega) hp
        · exact exp_nil IH rfl h0 hE hO hbad hN (by omega) hp
      · have h1 := cost_two (M := M) (ua := 1) (ub := 0) hu
        rw [wt_nd, wts_nil] at hd
        exact exp_var IH rfl h0 hE hO hbad hK hx (by omega) hN (by omega) hp
      · have h1 := Nat.mul_le_mul_left M h3
        rw [wt_nd, wts_cons, wts_nil] at hd
        exact exp_fn IH rfl h0 hE hO hbad h2 (by omega) hN (by omega) hp
      · rw [wt_nd, wts_cons, wts_cons, wts_nil] at hd
        cases cc with
        | true =>
          have h1 := cost_let (M := M) (h5 rfl).1 (h5 rfl).2
          exact exp_letv IH rfl h0 hE hO hbad h2 (by omega) h3 (by omega) h4 (by omega) hN (by omega) hp
        | false =>
          have h1 := cost_two (M := M) (h6 rfl).1
          have h7 := (h6 rfl).2
          exact exp_let IH rfl h0 hE hO hbad h2 (by omega) h3 (by omega) h4 hN (by omega) hp
      · have h1 := cost_let (M := M) h6 h7
        rw [wt_nd, wts_app, wts_cons, wts_nil] at hd
        exact exp_rec IH hK rfl h0 hE hO hbad h2 h3 h4 h5 (by omega) (by omega) hN (by omega) hp
      · have h7 := cost_two (M := M) h5
        rw [wt_nd, wts_cons, wts_cons, wts_nil] at hd
        rcases h1 with ⟨rfl | rfl, rfl⟩ | ⟨rfl, rfl⟩ | ⟨(rfl | rfl | rfl | rfl | rfl | rfl) | rfl, rfl⟩
        · exact exp_pair IH rfl h0 hE hO hbad h3 (by omega) h4 (by omega) hN (by omega) hp
        · exact exp_cons IH rfl h0 hE hO hbad h3 (by omega) h4 (by omega) hN (by omega) hp
        · exact exp_call IH rfl h0 hE hO hbad h3 (by omega) h4 (by omega) hN (by omega) hp
        · exact exp_op43 IH rfl h0 hE hO hbad h3 (by omega) h4 (by omega) (by omega) hN (by omega) hp
        · exact exp_op45 IH rfl h0 hE hO hbad h3 (by omega) h4 (by omega) (by omega) hN (by omega) hp
        · exact exp_op42 IH rfl h0 hE hO hbad h3 (by omega) h4 (by omega) (by omega) hN (by omega) hp
        · exact exp_op47 IH rfl h0 hE hO hbad h3 (by omega) h4 (by omega) (by omega) hN (by omega) hp
        · exact exp_op61 IH rfl h0 hE hO hbad h3 (by omega) h4 (by omega) (by omega) hN (by omega) hp
        · exact exp_op60 IH rfl h0 hE hO hbad h3 (by omega) h4 (by omega) (by omega) hN (by omega) hp
        · exact exp_ctl (.inr (.inr (.inr rfl))) h0 hE hbad hN (ctl_throw IH rfl h0 hE hO h3 (by omega) h4 (by omega) hN (by omega) hp)
      · have h7 := Nat.mul_le_mul_left M h4
        rw [wt_nd, wts_cons, wts_nil] at hd
        rcases h1 with rfl | rfl | rfl
        · exact exp_raise IH rfl h0 hE hO hbad h3 (by omega) hN (by omega) hp
        · exact exp_print IH rfl h0 hE hO hbad h3 (by omega) hN (by omega) hp
        · exact exp_ctl (.inr (.inr (.inl rfl))) h0 hE hbad hN (ctl_callcc IH rfl h0 hE hO h3 (by omega) hN (by omega) hp)
      · have h7 := Nat.mul_le_mul_left M h5
        rw [Nat.mul_add, Nat.mul_add] at h7
        rw [wt_nd, wts_cons, wts_cons, wts_cons, wts_nil] at hd
        exact exp_if IH rfl h0 hE hO hbad h2 (by omega) h3 (by omega) h4 (by omega) hN (by omega) hp
      · have h7 := cost_two (M := M) h4
        rw [wt_nd, wts_cons, wts_cons, wts_nil] at hd
        exact exp_ctl (.inl rfl) h0 hE hbad hN (ctl_try IH rfl h0 hE hO h2 (by omega) h3 (by omega) hN (by omega) hp)
      · have h7 := cost_two (M := M) h4
        rw [wt_nd, wts_cons] at hd
        exact exp_ctl (.inr (.inl rfl)) h0 hE hbad hN (ctl_match IH rfl h0 hE hO h2 h3 (by omega) (by omega) hN (by omega) hp)

theorem exp_all {y base : Nat} : ∀ K, K ≤ 1000 → ExOk y base K
  | 0, _ => fun _ _ _ _ _ _ _ _ _ _ _ _ _ _ _ _ _ _ h => by omega
  | K + 1, h => exp_step (by omega) (exp_all K (by omega))
end Go.Proofs.YtnbhnjokpcdnnaaGreatDoor
