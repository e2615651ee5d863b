
set_option linter.unusedSimpArgs false
set_option linter.unusedVariables false

/- Types as the reference keeps them, plain: a store of nodes; what a node was found to be; does one stand in another; two are made the same. -/
namespace Go.Proofs.YtnbhnjokpcdnnaaGreatDoor

structure TN where
  k : List UInt8
  subs : List Nat
  is : Option Nat
  seen : Int

def upd (m : Nat → Option TN) (b : Nat) (t : TN) : Nat → Option TN := fun x => if x = b then some t else m x

theorem upd_same {m : Nat → Option TN} {b : Nat} {t : TN} : upd m b t b = some t := if_pos rfl
theorem upd_other {m : Nat → Option TN} {b x : Nat} {t : TN} (h : x ≠ b) : upd m b t x = m x := if_neg h

/-- What a type was found to be. -/
def nowT (m : Nat → Option TN) : Nat → Nat → Option Nat
  | 0, _ => none
  | n + 1, x => (m x).bind fun t => match t.is with
    | some c => nowT m n c
    | none => some x

def insL (R : (Nat → Option TN) → Nat → Option ((Nat → Option TN) × Bool)) : List Nat → (Nat → Option TN) → Option ((Nat → Option TN) × Bool)
  | [], m => some (m, false)
  | s :: l, m => (R m s).bind fun x => if x.2 then some x else insL R l x.1

/-- Does a stand in b? -/
def insT (sw : Int) (a : Nat) : Nat → (Nat → Option TN) → Nat → Option ((Nat → Option TN) × Bool)
  | 0, _, _ => none
  | n + 1, m, b => (nowT m n b).bind fun r => if a = r then some (m, true) else (m r).bind fun t => if t.seen = sw then some (m, false) else insL (insT sw a n) t.subs (upd m r { t with seen := sw })

structure TyS where
  m : Nat → Option TN
  bad : Bool
  sw : Int

def sameL (R : TyS → Nat → Nat → Option TyS) : List Nat → List Nat → TyS → Option TyS
  | [], _, s => some s
  | a :: l, b :: l', s => (R s a b).bind fun s' => sameL R l l' s'
  | _ :: _, [], _ => none

/-- Two are made the same. -/
def sameT : Nat → TyS → Nat → Nat → Option TyS
  | 0, _, _, _ => none
  | n + 1, s, a0, b0 => (nowT s.m n a0).bind fun a => (nowT s.m n b0).bind fun b =>
    if s.bad = true ∨ a = b then some s else (s.m a).bind fun ta => (s.m b).bind fun tb =>
    if ta.k ≠ [] ∧ tb.k = [] then sameT n s b a
    else if ta.k = [] then (insT (s.sw + 1) a n s.m b).bind fun x => if x.2 then some ⟨x.1, true, s.sw + 1⟩ else (x.1 a).bind fun t => some ⟨upd x.1 a { t with is := some b }, false, s.sw + 1⟩
    else if ta.k ≠ tb.k then some { s with bad := true }
    else (sameL (sameT n) ta.subs tb.subs s).bind fun s' => if s'.bad then some s' else (s'.m a).bind fun t => some { s' with m := upd s'.m a { t with is := some b } }

section
variable {m : Nat → Option TN}

/-- x was found to be r. -/
def Rt (m : Nat → Option TN) (x r : Nat) : Prop := ∃ n, nowT m n x = some r
/-- One and the same. -/
def cls (m : Nat → Option TN) (x y : Nat) : Prop := ∃ r, Rt m x r ∧ Rt m y r

theorem nowT_up : ∀ (n k : Nat) (x r : Nat), n ≤ k → nowT m n x = some r → nowT m k x = some r
  | 0, _, _, _, _, h => by cases h
  | n + 1, 0, _, _, h, _ => by omega
  | n + 1, k + 1, x, r, h, hr => by
    rw [nowT] at hr ⊢
    cases hx : m x with
    | none => rw [hx] at hr; cases hr
    | some t =>
      rw [hx] at hr
      simp only [Option.bind_some] at hr ⊢
      cases hi : t.is with
      | none => rw [hi] at hr; exact hr
      | some c => rw [hi] at hr; exact nowT_up n k c r (by omega) hr

theorem Rt.det {x r r' : Nat} (h : Rt m x r) (h' : Rt m x r') : r = r' := by
  obtain ⟨n, h⟩ := h
  obtain ⟨k, h'⟩ := h'
  have a := nowT_up n (n + k) x r (by omega) h
  have b := nowT_up k (n + k) x r' (by omega) h'
  rw [a] at b
  injection b

theorem Rt.root : ∀ {n x r : Nat}, nowT m n x = some r → ∃ t, m r = some t ∧ t.is = none
  | 0, _, _, h => by cases h
  | n + 1, x, r, h => by
    rw [nowT] at h
    cases hx : m x with
    | none => rw [hx] at h; cases h
    | some t =>
      rw [hx] at h
      simp only [Option.bind_some] at h
      cases hi : t.is with
      | none =>
        rw [hi] at h
        injection h with h
        subst h
        exact ⟨t, hx, hi⟩
      | some c => rw [hi] at h; exact Rt.root (n := n) h

theorem Rt.self {x : Nat} {t : TN} (h : m x = some t) (hi : t.is = none) : Rt m x x := ⟨1, by rw [nowT, h]; simp [hi]⟩
theorem Rt.link {x c r : Nat} {t : TN} (h : m x = some t) (hi : t.is = some c) (hr : Rt m c r) : Rt m x r := by
  obtain ⟨n, hr⟩ := hr
  exact ⟨n + 1, by rw [nowT, h]; simp only [Option.bind_some, hi]; exact hr⟩
theorem Rt.dom {x r : Nat} (h : Rt m x r) : ∃ t, m x = some t := by
  obtain ⟨n, h⟩ := h
  cases n with
  | zero => cases h
  | succ n =>
    rw [nowT] at h
    cases hx : m x with
    | none => rw [hx] at h; cases h
    | some t => exact ⟨t, rfl⟩

theorem cls.symm {x y : Nat} (h : cls m x y) : cls m y x := by
  obtain ⟨r, h1, h2⟩ := h
  exact ⟨r, h2, h1⟩
theorem cls.trans {x y z : Nat} (h : cls m x y) (h' : cls m y z) : cls m x z := by
  obtain ⟨r, h1, h2⟩ := h
  obtain ⟨r', h3, h4⟩ := h'
  obtain rfl := Rt.det h2 h3
  exact ⟨r, h1, h4⟩
theorem cls.refl {x r : Nat} (h : Rt m x r) : cls m x x := ⟨r, h, h⟩

def arity (k : List UInt8) : Nat := if k = [112, 97, 105, 114] ∨ k = [102, 117, 110] then 2 else if k = [108, 105, 115, 116] ∨ k = [99, 111, 110, 116] then 1 else 0

/-- The store is sound: closed; no node is part of itself; what was found to be another is of one kind with it, its parts the same. -/
structure Inv (m : Nat → Option TN) : Prop where
  cl : ∀ x t, m x = some t → (∀ s ∈ t.subs, ∃ u, m s = some u) ∧ ∀ c, t.is = some c → ∃ u, m c = some u
  ar : ∀ x t, m x = some t → t.subs.length = arity t.k
  rk : ∃ (rho lam : Nat → Nat) (K : Nat), (∀ x, lam x ≤ K) ∧ ∀ x t, m x = some t → (∀ c, t.is = some c → lam c < lam x ∧ rho c = rho x) ∧ (t.is = none → ∀ s ∈ t.subs, rho s < rho x)
  cg : ∀ x t c u, m x = some t → t.is = some c → m c = some u → t.k ≠ [] → t.k = u.k ∧ ∀ (i : Nat) s s', t.subs[i]? = some s → u.subs[i]? = some s' → cls m s s'

theorem Inv.rt (h : Inv m) : ∃ K, ∀ x t, m x = some t → ∃ r, nowT m (K + 1) x = some r := by
  obtain ⟨rho, lam, K, hK, hr⟩ := h.rk
  refine ⟨K, fun x t hx => ?_⟩
  have : ∀ (n x : Nat) (t : TN), m x = some t → lam x ≤ n → ∃ r, nowT m (n + 1) x = some r := by
    intro n
    induction n with
    | zero =>
      intro x t hx hl
      rw [nowT, hx]
      simp only [Option.bind_some]
      cases hi : t.is with
      | none => exact ⟨x, rfl⟩
      | some c => have := ((hr x t hx).1 c hi).1; omega
    | succ n ih =>
      intro x t hx hl
      rw [nowT, hx]
      simp only [Option.bind_some]
      cases hi : t.is with
      | none => exact ⟨x, rfl⟩
      | some c =>
        obtain ⟨u, hu⟩ := (h.cl x t hx).2 c hi
        exact ih c u hu (by have := ((hr x t hx).1 c hi).1; omega)
  exact this K x t hx (hK x)

theorem Inv.root (h : Inv m) {x : Nat} {t : TN} (hx : m x = some t) : ∃ r, Rt m x r := by
  obtain ⟨K, hK⟩ := h.rt
  obtain ⟨r, hr⟩ := hK x t hx
  exact ⟨r, _, hr⟩

/-- The ranks are the same throughout a class. -/
theorem rho_rt {rho lam : Nat → Nat} (hr : ∀ x t, m x = some t → (∀ c, t.is = some c → lam c < lam x ∧ rho c = rho x) ∧ (t.is = none → ∀ s ∈ t.subs, rho s < rho x)) : ∀ (n x r : Nat), nowT m n x = some r → rho r = rho x
  | 0, _, _, h => by cases h
  | n + 1, x, r, h => by
    rw [nowT] at h
    cases hx : m x with
    | none => rw [hx] at h; cases h
    | some t =>
      rw [hx] at h
      simp only [Option.bind_some] at h
      cases hi : t.is with
      | none => rw [hi] at h; injection h with h; rw [h]
      | some c =>
        rw [hi] at h
        rw [rho_rt hr n c r h, ((hr x t hx).1 c hi).2]

/-- What x was found to be is of x's kind, its parts the same, if x is no unknown. -/
theorem Inv.cong (h : Inv m) : ∀ (n x r : Nat) (t : TN), nowT m n x = some r → m x = some t → t.k ≠ [] → ∃ u, m r = some u ∧ t.k = u.k ∧ ∀ (i : Nat) s s', t.subs[i]? = some s → u.subs[i]? = some s' → cls m s s'
  | 0, _, _, _, hr, _, _ => by cases hr
  | n + 1, x, r, t, hr, hx, hk => by
    rw [nowT, hx] at hr
    simp only [Option.bind_some] at hr
    cases hi : t.is with
    | none =>
      rw [hi] at hr
      injection hr with hr
      subst hr
      refine ⟨t, hx, rfl, fun i s s' h1 h2 => ?_⟩
      rw [h1] at h2
      injection h2 with h2
      subst h2
      obtain ⟨u, hu⟩ := (h.cl x t hx).1 s (List.mem_of_getElem? h1)
      obtain ⟨r, hr⟩ := h.root hu
      exact cls.refl hr
    | some c =>
      rw [hi] at hr
      obtain ⟨u, hu⟩ := (h.cl x t hx).2 c hi
      obtain ⟨e1, e2⟩ := h.cg x t c u hx hi hu hk
      obtain ⟨v, hv, f1, f2⟩ := Inv.cong h n c r u hr hu (by rw [← e1]; exact hk)
      refine ⟨v, hv, e1.trans f1, fun i s s' h1 h2 => ?_⟩
      have hl : t.subs.length = u.subs.length := by rw [h.ar x t hx, h.ar c u hu, e1]
      have hi' : i < u.subs.length := by rw [← hl]; exact (List.getElem?_eq_some_iff.1 h1).1
      exact (e2 i s u.subs[i] h1 (List.getElem?_eq_getElem hi')).trans (f2 i u.subs[i] s' (List.getElem?_eq_getElem hi') h2)
end
end Go.Proofs.YtnbhnjokpcdnnaaGreatDoor

namespace Go.Proofs.YtnbhnjokpcdnnaaGreatDoor

/-- The same but for marks. -/
def Sm (m m' : Nat → Option TN) : Prop := ∀ x, (m x).map (fun t => (t.k, t.subs, t.is)) = (m' x).map (fun t => (t.k, t.subs, t.is))

section
variable {m m' m'' : Nat → Option TN}

theorem Sm.refl (m : Nat → Option TN) : Sm m m := fun _ => rfl
theorem Sm.symm (h : Sm m m') : Sm m' m := fun x => (h x).symm
theorem Sm.trans (h : Sm m m') (h' : Sm m' m'') : Sm m m'' := fun x => (h x).trans (h' x)

theorem Sm.at (h : Sm m m') {x : Nat} {t : TN} (hx : m x = some t) : ∃ t', m' x = some t' ∧ t'.k = t.k ∧ t'.subs = t.subs ∧ t'.is = t.is := by
  have := h x
  rw [hx] at this
  cases hy : m' x with
  | none => rw [hy] at this; cases this
  | some t' =>
    rw [hy] at this
    simp at this
    exact ⟨t', rfl, this.1.symm, this.2.1.symm, this.2.2.symm⟩

theorem Sm.mark {x : Nat} {t : TN} (hx : m x = some t) (sw : Int) : Sm m (upd m x { t with seen := sw }) := by
  intro y
  by_cases h : y = x
  · subst h; rw [hx, upd_same]; rfl
  · rw [upd_other h]

theorem Sm.now (h : Sm m m') : ∀ (n x r : Nat), nowT m n x = some r → nowT m' n x = some r
  | 0, _, _, hr => by cases hr
  | n + 1, x, r, hr => by
    rw [nowT] at hr ⊢
    cases hx : m x with
    | none => rw [hx] at hr; cases hr
    | some t =>
      rw [hx] at hr
      obtain ⟨t', e1, -, -, e2⟩ := h.at hx
      rw [e1]
      simp only [Option.bind_some] at hr ⊢
      rw [e2]
      cases hi : t.is with
      | none => rw [hi] at hr; exact hr
      | some c => rw [hi] at hr; exact Sm.now h n c r hr

theorem Sm.rt (h : Sm m m') {x r : Nat} (hr : Rt m x r) : Rt m' x r := by
  obtain ⟨n, hr⟩ := hr
  exact ⟨n, h.now n x r hr⟩

/-- z stands in x: so many steps. -/
def rch (m : Nat → Option TN) (z : Nat) : Nat → Nat → Prop
  | 0, x => Rt m x z
  | n + 1, x => Rt m x z ∨ ∃ r t s, Rt m x r ∧ m r = some t ∧ s ∈ t.subs ∧ rch m z n s
def Rch (m : Nat → Option TN) (x z : Nat) : Prop := ∃ n, rch m z n x

theorem Rch.here {x z : Nat} (h : Rt m x z) : Rch m x z := ⟨0, h⟩
theorem Rch.step {x r s z : Nat} {t : TN} (h1 : Rt m x r) (h2 : m r = some t) (h3 : s ∈ t.subs) (h4 : Rch m s z) : Rch m x z := by
  obtain ⟨n, h4⟩ := h4
  exact ⟨n + 1, .inr ⟨r, t, s, h1, h2, h3, h4⟩⟩

theorem rch_cls {z : Nat} : ∀ (n x y : Nat), cls m x y → rch m z n x → rch m z n y
  | 0, x, y, ⟨r, h1, h2⟩, h => by
    have h' : Rt m x z := h
    obtain rfl := Rt.det h1 h'
    exact h2
  | n + 1, x, y, ⟨r, h1, h2⟩, h => by
    rcases h with h | ⟨r', t, s, g1, g2, g3, g4⟩
    · obtain rfl := Rt.det h1 h
      exact .inl h2
    · obtain rfl := Rt.det h1 g1
      exact .inr ⟨r, t, s, h2, g2, g3, g4⟩

theorem Rch.cls {x y z : Nat} (hc : cls m x y) (h : Rch m x z) : Rch m y z := by
  obtain ⟨n, h⟩ := h
  exact ⟨n, rch_cls n x y hc h⟩

theorem Rch.trans : ∀ (n x y z : Nat), rch m y n x → Rch m y z → Rch m x z
  | 0, x, y, z, h, h' => by
    have hx : Rt m x y := h
    obtain ⟨k, hk⟩ := hx
    obtain ⟨t, h1, h2⟩ := Rt.root hk
    exact Rch.cls ⟨y, Rt.self h1 h2, ⟨k, hk⟩⟩ h'
  | n + 1, x, y, z, h, h' => by
    rcases h with h | ⟨r, t, s, g1, g2, g3, g4⟩
    · obtain ⟨k, hk⟩ := h
      obtain ⟨t, h1, h2⟩ := Rt.root hk
      exact Rch.cls ⟨y, Rt.self h1 h2, ⟨k, hk⟩⟩ h'
    · exact Rch.step g1 g2 g3 (Rch.trans n s y z g4 h')

theorem rch_sm (h : Sm m m') {z : Nat} : ∀ (n x : Nat), rch m z n x → rch m' z n x
  | 0, x, hr => h.rt hr
  | n + 1, x, hr => by
    rcases hr with hr | ⟨r, t, s, g1, g2, g3, g4⟩
    · exact .inl (h.rt hr)
    · obtain ⟨t', e1, -, e2, -⟩ := h.at g2
      exact .inr ⟨r, t', s, h.rt g1, e1, by rw [e2]; exact g3, rch_sm h n s g4⟩
theorem Rch.sm (h : Sm m m') {x z : Nat} (hr : Rch m x z) : Rch m' x z := by
  obtain ⟨n, hr⟩ := hr
  exact ⟨n, rch_sm h n x hr⟩

/-- The ranks. -/
def RkP (rho lam : Nat → Nat) (m : Nat → Option TN) : Prop := ∀ x t, m x = some t → (∀ c, t.is = some c → lam c < lam x ∧ rho c = rho x) ∧ (t.is = none → ∀ s ∈ t.subs, rho s < rho x)
def ClP (m : Nat → Option TN) : Prop := ∀ x t, m x = some t → (∀ s ∈ t.subs, ∃ u, m s = some u) ∧ ∀ c, t.is = some c → ∃ u, m c = some u

theorem RkP.sm {rho lam : Nat → Nat} (h : Sm m m') (hr : RkP rho lam m) : RkP rho lam m' := by
  intro x t hx
  obtain ⟨t', e1, -, e2, e3⟩ := h.symm.at hx
  have := hr x t' e1
  rw [e2, e3] at this
  exact this
theorem ClP.sm (h : Sm m m') (hc : ClP m) : ClP m' := by
  intro x t hx
  obtain ⟨t', e1, -, e2, e3⟩ := h.symm.at hx
  have := hc x t' e1
  rw [e2, e3] at this
  refine ⟨fun s hs => ?_, fun c hc => ?_⟩
  · obtain ⟨u, hu⟩ := this.1 s hs
    obtain ⟨u', hu', -⟩ := h.at hu
    exact ⟨u', hu'⟩
  · obtain ⟨u, hu⟩ := this.2 c hc
    obtain ⟨u', hu', -⟩ := h.at hu
    exact ⟨u', hu'⟩

theorem rch_rho {rho lam : Nat → Nat} (hr : RkP rho lam m) {z : Nat} : ∀ (n x : Nat), rch m z n x → rho z ≤ rho x
  | 0, x, h => by
    obtain ⟨k, hk⟩ := (show Rt m x z from h)
    rw [rho_rt hr k x z hk]
    exact Nat.le_refl _
  | n + 1, x, h => by
    rcases h with ⟨k, hk⟩ | ⟨r, t, s, ⟨k, g1⟩, g2, g3, g4⟩
    · rw [rho_rt hr k x z hk]
      exact Nat.le_refl _
    · have h1 := rch_rho hr n s g4
      obtain ⟨t', e1, e2⟩ := Rt.root g1
      rw [g2] at e1
      injection e1 with e1
      subst e1
      have h2 := (hr r t g2).2 e2 s g3
      have h3 := rho_rt hr k x r g1
      omega

theorem insL_up {R R' : (Nat → Option TN) → Nat → Option ((Nat → Option TN) × Bool)} (h : ∀ m s x, R m s = some x → R' m s = some x) : ∀ (l : List Nat) (m : Nat → Option TN) (x : (Nat → Option TN) × Bool), insL R l m = some x → insL R' l m = some x
  | [], _, _, hx => hx
  | s :: l, m, x, hx => by
    rw [insL] at hx ⊢
    cases h1 : R m s with
    | none => rw [h1] at hx; cases hx
    | some y =>
      rw [h1] at hx
      rw [h m s y h1]
      simp only [Option.bind_some] at hx ⊢
      split at hx
      · rename_i hy; rw [if_pos hy]; exact hx
      · rename_i hy; rw [if_neg hy]; exact insL_up h l y.1 x hx

theorem insT_up {sw : Int} {a : Nat} : ∀ (n k : Nat) (m : Nat → Option TN) (b : Nat) (x : (Nat → Option TN) × Bool), n ≤ k → insT sw a n m b = some x → insT sw a k m b = some x
  | 0, _, _, _, _, _, h => by cases h
  | n + 1, 0, _, _, _, h, _ => by omega
  | n + 1, k + 1, m, b, x, h, hx => by
    rw [insT] at hx ⊢
    cases h1 : nowT m n b with
    | none => rw [h1] at hx; cases hx
    | some r =>
      rw [h1] at hx
      rw [nowT_up n k b r (by omega) h1]
      simp only [Option.bind_some] at hx ⊢
      split at hx
      · rename_i hy; rw [if_pos hy]; exact hx
      · rename_i hy
        rw [if_neg hy]
        cases h2 : m r with
        | none => rw [h2] at hx; cases hx
        | some t =>
          rw [h2] at hx
          simp only [Option.bind_some] at hx ⊢
          split at hx
          · rename_i hz; rw [if_pos hz]; exact hx
          · rename_i hz
            rw [if_neg hz]
            exact insL_up (fun m s x => insT_up n k m s x (by omega)) _ _ _ hx

/-- What 'inside' answers, and does. -/
def InsOk (sw : Int) (a : Nat) (m : Nat → Option TN) (b : Nat) : Prop := ∃ n m' r, insT sw a n m b = some (m', r) ∧ Sm m m' ∧ (∀ x t', m' x = some t' → t'.seen = sw → (∃ t, m x = some t ∧ t.seen = sw) ∨ Rch m b x) ∧
  (r = false → (∀ x t, m x = some t → t.seen = sw → Rch m b x → ¬ Rch m x a) → ¬ Rch m b a)

theorem insL_ok {sw : Int} {a : Nat} {rho lam : Nat → Nat} {m0 : Nat → Option TN} {b0 r0 : Nat} {t0 : TN} (hb : Rt m0 b0 r0) (hr0 : m0 r0 = some t0) (hrk : RkP rho lam m0) (hroot : t0.is = none) {Pre : Prop} (hPre : Pre → ∀ x t, m0 x = some t → t.seen = sw → Rch m0 b0 x → ¬ Rch m0 x a)
    (IH : ∀ (m : Nat → Option TN) (s : Nat), Sm m0 m → s ∈ t0.subs → InsOk sw a m s) : ∀ (l : List Nat) (m : Nat → Option TN), (∀ s ∈ l, s ∈ t0.subs) → Sm m0 m →
    (∀ x t', m x = some t' → t'.seen = sw → (∃ t, m0 x = some t ∧ t.seen = sw) ∨ x = r0 ∨ ∃ s ∈ t0.subs, (Pre → ¬ Rch m0 s a) ∧ Rch m0 s x) →
    ∃ n m' r, insL (insT sw a n) l m = some (m', r) ∧ Sm m m' ∧ (∀ x t', m' x = some t' → t'.seen = sw → (∃ t, m x = some t ∧ t.seen = sw) ∨ ∃ s ∈ l, Rch m0 s x) ∧ (r = false → Pre → ∀ s ∈ l, ¬ Rch m0 s a)
  | [], m, _, _, _ => ⟨0, m, false, rfl, Sm.refl m, fun x t' h1 h2 => .inl ⟨t', h1, h2⟩, fun _ _ s hs => by cases hs⟩
  | s :: l, m, hl, hsm, hmk => by
    obtain ⟨n1, m1, r1, e1, e2, e3, e4⟩ := IH m s hsm (hl s (by simp))
    have hsm1 : Sm m0 m1 := hsm.trans e2
    cases r1 with
    | true =>
      refine ⟨n1, m1, true, ?_, e2, fun x t' h1 h2 => ?_, fun h => by cases h⟩
      · rw [insL, e1]; rfl
      · rcases e3 x t' h1 h2 with h | h
        · exact .inl h
        · exact .inr ⟨s, by simp, h.sm hsm.symm⟩
    | false =>
      have hs : Pre → ¬ Rch m0 s a := by
        intro hp hra
        refine e4 rfl ?_ (hra.sm hsm)
        intro x t hx hsn hrx hxa
        have hrx0 := hrx.sm hsm.symm
        have hxa0 := hxa.sm hsm.symm
        rcases hmk x t hx hsn with ⟨t1, h1, h2⟩ | h1 | ⟨s1, h1, h2, h3⟩
        · exact hPre hp x t1 h1 h2 (Rch.step hb hr0 (hl s (by simp)) hrx0) hxa0
        · subst h1
          obtain ⟨k, hk⟩ := hrx0
          have h4 := rch_rho hrk k s hk
          have h5 := (hrk x t0 hr0).2 hroot s (hl s (by simp))
          omega
        · obtain ⟨k, hk⟩ := h3
          exact h2 hp (Rch.trans k s1 x a hk hxa0)
      obtain ⟨n2, m2, r2, f1, f2, f3, f4⟩ := insL_ok hb hr0 hrk hroot hPre IH l m1 (fun s' h => hl s' (by simp [h])) hsm1 (fun x t' h1 h2 => by
        rcases e3 x t' h1 h2 with ⟨t1, g1, g2⟩ | g
        · exact hmk x t1 g1 g2
        · exact .inr (.inr ⟨s, hl s (by simp), hs, g.sm hsm.symm⟩))
      refine ⟨n1 + n2, m2, r2, ?_, e2.trans f2, fun x t' h1 h2 => ?_, fun h hp s' hs' => ?_⟩
      · rw [insL, insT_up n1 (n1 + n2) m s _ (by omega) e1]
        simp only [Option.bind_some]
        rw [if_neg (by decide)]
        exact insL_up (fun m s x => insT_up n2 (n1 + n2) m s x (by omega)) _ _ _ f1
      · rcases f3 x t' h1 h2 with ⟨t1, g1, g2⟩ | ⟨s1, g1, g2⟩
        · rcases e3 x t1 g1 g2 with h | h
          · exact .inl h
          · exact .inr ⟨s, by simp, h.sm hsm.symm⟩
        · exact .inr ⟨s1, by simp [g1], g2⟩
      · rcases List.mem_cons.1 hs' with rfl | hs'
        · exact hs hp
        · exact f4 h hp s' hs'

/-- 'inside' ends, and is right while the marks are. -/
theorem ins_ok {sw : Int} {a : Nat} {rho lam : Nat → Nat} {K : Nat} (hK : ∀ x, lam x ≤ K) : ∀ (d : Nat) (m : Nat → Option TN) (b : Nat) (tb : TN), RkP rho lam m → ClP m → m b = some tb → rho b < d → InsOk sw a m b
  | 0, _, _, _, _, _, _, h => by omega
  | d + 1, m, b, tb, hrk, hcl, hb, hd => by
    have hnow : ∀ (n x : Nat) (t : TN), m x = some t → lam x ≤ n → ∃ r, nowT m (n + 1) x = some r := by
      intro n
      induction n with
      | zero =>
        intro x t hx hl
        rw [nowT, hx]
        simp only [Option.bind_some]
        cases hi : t.is with
        | none => exact ⟨x, rfl⟩
        | some c => have := ((hrk x t hx).1 c hi).1; omega
      | succ n ih =>
        intro x t hx hl
        rw [nowT, hx]
        simp only [Option.bind_some]
        cases hi : t.is with
        | none => exact ⟨x, rfl⟩
        | some c =>
          obtain ⟨u, hu⟩ := (hcl x t hx).2 c hi
          exact ih c u hu (by have := ((hrk x t hx).1 c hi).1; omega)
    obtain ⟨r0, hr0⟩ := hnow K b tb hb (hK b)
    obtain ⟨t0, ht0, hroot⟩ := Rt.root hr0
    have hRt : Rt m b r0 := ⟨_, hr0⟩
    by_cases har : a = r0
    · refine ⟨K + 2, m, true, ?_, Sm.refl m, fun x t' h1 h2 => .inl ⟨t', h1, h2⟩, fun h => by cases h⟩
      rw [insT, hr0]
      simp only [Option.bind_some]
      rw [if_pos har]
    by_cases hsn : t0.seen = sw
    · refine ⟨K + 2, m, false, ?_, Sm.refl m, fun x t' h1 h2 => .inl ⟨t', h1, h2⟩, fun _ hp hba => ?_⟩
      · rw [insT, hr0]
        simp only [Option.bind_some]
        rw [if_neg har, ht0]
        simp only [Option.bind_some]
        rw [if_pos hsn]
      · exact hp r0 t0 ht0 hsn (Rch.here hRt) (Rch.cls ⟨r0, hRt, Rt.self ht0 hroot⟩ hba)
    · have hrho := rho_rt hrk _ _ _ hr0
      have hmark := Sm.mark ht0 sw
      obtain ⟨n, m', r, e1, e2, e3, e4⟩ := insL_ok (sw := sw) (a := a) (Pre := ∀ x t, m x = some t → t.seen = sw → Rch m b x → ¬ Rch m x a) hRt ht0 hrk hroot (fun h => h)
        (fun mm s hsm hs => by
          obtain ⟨u, hu⟩ := (hcl r0 t0 ht0).1 s hs
          obtain ⟨u', hu', -⟩ := hsm.at hu
          exact ins_ok hK d mm s u' (hrk.sm hsm) (hcl.sm hsm) hu' (by have := (hrk r0 t0 ht0).2 hroot s hs; omega))
        t0.subs (upd m r0 { t0 with seen := sw }) (fun _ h => h) hmark (fun x t' h1 h2 => by
          by_cases hx : x = r0
          · exact .inr (.inl hx)
          · rw [upd_other hx] at h1
            exact .inl ⟨t', h1, h2⟩)
      refine ⟨n + K + 2, m', r, ?_, hmark.trans e2, fun x t' h1 h2 => ?_, fun h hp hba => ?_⟩
      · rw [insT, nowT_up (K + 1) (n + K + 1) b r0 (by omega) hr0]
        simp only [Option.bind_some]
        rw [if_neg har, ht0]
        simp only [Option.bind_some]
        rw [if_neg hsn]
        exact insL_up (fun m s x => insT_up n (n + K + 1) m s x (by omega)) _ _ _ e1
      · rcases e3 x t' h1 h2 with ⟨t1, g1, g2⟩ | ⟨s, g1, g2⟩
        · by_cases hx : x = r0
          · subst hx
            exact .inr (Rch.here hRt)
          · rw [upd_other hx] at g1
            exact .inl ⟨t1, g1, g2⟩
        · exact .inr (Rch.step hRt ht0 g1 g2)
      · have h4 := e4 h hp
        obtain ⟨k, hk⟩ := hba
        cases k with
        | zero => exact har (Rt.det hk hRt)
        | succ k =>
          rcases hk with hk | ⟨r', t', s, g1, g2, g3, g4⟩
          · exact har (Rt.det hk hRt)
          · obtain rfl := Rt.det hRt g1
            rw [ht0] at g2
            injection g2 with g2
            subst g2
            exact h4 s g3 ⟨k, g4⟩
end
end Go.Proofs.YtnbhnjokpcdnnaaGreatDoor

namespace Go.Proofs.YtnbhnjokpcdnnaaGreatDoor
section
variable {m m' m'' : Nat → Option TN}

/-- Links have come, nothing else but marks. -/
def Ex (m m' : Nat → Option TN) : Prop := (∀ x t, m x = some t → ∃ t', m' x = some t' ∧ t'.k = t.k ∧ t'.subs = t.subs ∧ ∀ c, t.is = some c → t'.is = some c) ∧ ∀ x, m x = none → m' x = none

theorem Ex.refl (m : Nat → Option TN) : Ex m m := ⟨fun x t h => ⟨t, h, rfl, rfl, fun _ h => h⟩, fun _ h => h⟩
theorem Ex.trans (h : Ex m m') (h' : Ex m' m'') : Ex m m'' := by
  refine ⟨fun x t hx => ?_, fun x hx => h'.2 x (h.2 x hx)⟩
  obtain ⟨t1, e1, e2, e3, e4⟩ := h.1 x t hx
  obtain ⟨t2, f1, f2, f3, f4⟩ := h'.1 x t1 e1
  exact ⟨t2, f1, f2.trans e2, f3.trans e3, fun c hc => f4 c (e4 c hc)⟩
theorem Sm.ex (h : Sm m m') : Ex m m' := by
  refine ⟨fun x t hx => ?_, fun x hx => ?_⟩
  · obtain ⟨t', e1, e2, e3, e4⟩ := h.at hx
    exact ⟨t', e1, e2, e3, fun c hc => by rw [e4]; exact hc⟩
  · have := h x
    rw [hx] at this
    cases hy : m' x with
    | none => rfl
    | some t => rw [hy] at this; cases this

theorem Sm.inv (h : Sm m m') (hI : Inv m) : Inv m' := by
  obtain ⟨rho, lam, K, hK, hr⟩ := hI.rk
  refine ⟨ClP.sm h hI.cl, fun x t hx => ?_, ⟨rho, lam, K, hK, RkP.sm h hr⟩, fun x t c u hx hi hu hk => ?_⟩
  · obtain ⟨t', e1, e2, e3, -⟩ := h.symm.at hx
    rw [← e2, ← e3]
    exact hI.ar x t' e1
  · obtain ⟨t', e1, e2, e3, e4⟩ := h.symm.at hx
    obtain ⟨u', f1, f2, f3, f4⟩ := h.symm.at hu
    obtain ⟨g1, g2⟩ := hI.cg x t' c u' e1 (by rw [e4]; exact hi) f1 (by rw [e2]; exact hk)
    refine ⟨by rw [← e2, ← f2]; exact g1, fun i s s' h1 h2 => ?_⟩
    obtain ⟨r, k1, k2⟩ := g2 i s s' (by rw [e3]; exact h1) (by rw [f3]; exact h2)
    exact ⟨r, h.rt k1, h.rt k2⟩

/-- A root of old leads on to the new one. -/
theorem Ex.rt (h : Ex m m') {r' : Nat} : ∀ (n x r : Nat), nowT m n x = some r → Rt m' r r' → Rt m' x r'
  | 0, _, _, hr, _ => by cases hr
  | n + 1, x, r, hr, h' => by
    rw [nowT] at hr
    cases hx : m x with
    | none => rw [hx] at hr; cases hr
    | some t =>
      rw [hx] at hr
      simp only [Option.bind_some] at hr
      cases hi : t.is with
      | none => rw [hi] at hr; injection hr with hr; rw [hr]; exact h'
      | some c =>
        rw [hi] at hr
        obtain ⟨t', e1, -, -, e4⟩ := h.1 x t hx
        exact Rt.link e1 (e4 c hi) (Ex.rt h n c r hr h')

theorem Ex.cls (h : Ex m m') (hI : Inv m') {x y : Nat} (hc : cls m x y) : cls m' x y := by
  obtain ⟨r, ⟨n, h1⟩, ⟨k, h2⟩⟩ := hc
  obtain ⟨t, g1, -⟩ := Rt.root h1
  obtain ⟨t', e1, -⟩ := h.1 r t g1
  obtain ⟨r', hr'⟩ := hI.root e1
  exact ⟨r', h.rt n x r h1 hr', h.rt k y r h2 hr'⟩

/-- z's class stands in x. -/
def Rc (m : Nat → Option TN) (x z : Nat) : Prop := ∃ z', Rt m z z' ∧ Rch m x z'

theorem arity_pos {k : List UInt8} (h : 0 < arity k) : k ≠ [] := by
  rintro rfl
  revert h
  decide

theorem Ex.rch (h : Ex m m') (hI : Inv m) (hI' : Inv m') {z z' : Nat} (hz : Rt m' z z') : ∀ (n x : Nat), rch m z n x → Rch m' x z'
  | 0, x, hx => by
    obtain ⟨k, hk⟩ := (show Rt m x z from hx)
    exact Rch.here (h.rt k x z hk hz)
  | n + 1, x, hx => by
    rcases hx with ⟨k, hk⟩ | ⟨r, t, s, ⟨k, g1⟩, g2, g3, g4⟩
    · exact Rch.here (h.rt k x z hk hz)
    · have ih := Ex.rch h hI hI' hz n s g4
      obtain ⟨t', e1, e2, e3, -⟩ := h.1 r t g2
      obtain ⟨r', ⟨k', hr'⟩⟩ := hI'.root e1
      have hne : t'.k ≠ [] := by
        rw [e2]
        refine arity_pos ?_
        rw [← hI.ar r t g2]
        exact List.length_pos_of_mem g3
      obtain ⟨u, f1, f2, f3⟩ := hI'.cong k' r r' t' hr' e1 hne
      obtain ⟨i, hi, hs⟩ := List.getElem_of_mem g3
      have hi' : i < u.subs.length := by
        rw [hI'.ar r' u f1, ← f2, ← hI'.ar r t' e1, e3]
        exact hi
      have hc := f3 i s u.subs[i] (by rw [e3, List.getElem?_eq_getElem hi, hs]) (List.getElem?_eq_getElem hi')
      exact Rch.step (h.rt k x r g1 ⟨k', hr'⟩) f1 (List.getElem_mem hi') (Rch.cls hc ih)

theorem Ex.rc (h : Ex m m') (hI : Inv m) (hI' : Inv m') {x z : Nat} (hr : Rc m x z) : Rc m' x z := by
  obtain ⟨z1, ⟨k, h1⟩, ⟨n, h2⟩⟩ := hr
  obtain ⟨t, g1, -⟩ := Rt.root h1
  obtain ⟨t', e1, -⟩ := h.1 z1 t g1
  obtain ⟨z', hz'⟩ := hI'.root e1
  exact ⟨z', h.rt k z z1 h1 hz', h.rch hI hI' hz' n x h2⟩

theorem Rc.cls {x y z : Nat} (hc : cls m x y) (h : Rc m x z) : Rc m y z := by
  obtain ⟨z', h1, h2⟩ := h
  exact ⟨z', h1, Rch.cls hc h2⟩

/-- How many are unlinked. -/
def cnt (m : Nat → Option TN) : Nat → Nat
  | 0 => 0
  | n + 1 => cnt m n + (match m n with
    | some t => if t.is = none then 1 else 0
    | none => 0)

theorem cnt_ex (h : Ex m m') : ∀ N, cnt m' N ≤ cnt m N ∧ (cnt m' N = cnt m N → ∀ x t t', x < N → m x = some t → m' x = some t' → t'.is = t.is)
  | 0 => ⟨Nat.le_refl _, fun _ x t t' hx => by omega⟩
  | n + 1 => by
    obtain ⟨h1, h2⟩ := cnt_ex h n
    simp only [cnt]
    cases hx : m n with
    | none =>
      rw [h.2 n hx]
      refine ⟨by omega, fun he x t t' hl g1 g2 => ?_⟩
      by_cases e : x = n
      · subst e; rw [hx] at g1; cases g1
      · exact h2 (by omega) x t t' (by omega) g1 g2
    | some t0 =>
      obtain ⟨t0', e1, e2, e3, e4⟩ := h.1 n t0 hx
      rw [e1]
      simp only []
      cases hi : t0.is with
      | some c =>
        rw [e4 c hi]
        simp
        refine ⟨by omega, fun he x t t' hl g1 g2 => ?_⟩
        by_cases e : x = n
        · subst e
          rw [hx] at g1; injection g1 with g1; subst g1
          rw [e1] at g2; injection g2 with g2; subst g2
          rw [e4 c hi, hi]
        · exact h2 (by omega) x t t' (by omega) g1 g2
      | none =>
        rw [if_pos rfl]
        split
        · rename_i h3
          refine ⟨by omega, fun he x t t' hl g1 g2 => ?_⟩
          by_cases e : x = n
          · subst e
            rw [hx] at g1; injection g1 with g1; subst g1
            rw [e1] at g2; injection g2 with g2; subst g2
            rw [h3, hi]
          · exact h2 (by omega) x t t' (by omega) g1 g2
        · exact ⟨by omega, fun he => by omega⟩

theorem cnt_sm (h : Sm m m') (N : Nat) : cnt m' N = cnt m N := by
  have h1 := (cnt_ex h.ex N).1
  have h2 := (cnt_ex h.symm.ex N).1
  omega

theorem cnt_link {a : Nat} {t : TN} {c : Nat} (ha : m a = some t) (hi : t.is = none) : ∀ N, a < N → cnt (upd m a { t with is := some c }) N + 1 = cnt m N := by
  have h0 : ∀ N, N ≤ a → cnt (upd m a { t with is := some c }) N = cnt m N := by
    intro N
    induction N with
    | zero => intro _; rfl
    | succ n ih =>
      intro hn
      simp only [cnt]
      rw [ih (by omega), upd_other (by omega)]
  intro N
  induction N with
  | zero => intro h; omega
  | succ n ih =>
    intro hn
    simp only [cnt]
    by_cases e : n = a
    · subst e
      rw [h0 n (Nat.le_refl _), upd_same, ha]
      simp [hi]
    · rw [upd_other e]
      have := ih (by omega)
      omega

/-- All nodes lie below N; marks are of sweeps that were. -/
def Dm (m : Nat → Option TN) (N : Nat) (sw : Int) : Prop := ∀ x t, m x = some t → x < N ∧ t.seen ≤ sw

/-- What 'same' does. -/
def SameOk (N : Nat) (s : TyS) (x y : Nat) : Prop := ∃ n s', sameT n s x y = some s' ∧ Inv s'.m ∧ Ex s.m s'.m ∧ Dm s'.m N s'.sw ∧ s.sw ≤ s'.sw ∧ (s.bad = true → s' = s) ∧
  s'.sw + (cnt s'.m N : Int) ≤ s.sw + (cnt s.m N : Int) + (if s'.bad = true ∧ s.bad = false then 1 else 0) ∧
  (s'.bad = false → cls s'.m x y ∧ ∀ p q tp tq, s.m p = some tp → s.m q = some tq → tp.k ≠ [] → tq.k ≠ [] → ¬ cls s.m p q → cls s'.m p q → Rc s'.m x p ∧ Rc s'.m y p)
end
end Go.Proofs.YtnbhnjokpcdnnaaGreatDoor

namespace Go.Proofs.YtnbhnjokpcdnnaaGreatDoor
section
variable {m : Nat → Option TN} {a b : Nat} {ta : TN}

theorem link_ex (ha : m a = some ta) (hi : ta.is = none) : Ex m (upd m a { ta with is := some b }) := by
  refine ⟨fun x t hx => ?_, fun x hx => ?_⟩
  · by_cases e : x = a
    · subst e
      rw [ha] at hx
      injection hx with hx
      subst hx
      exact ⟨_, upd_same, rfl, rfl, fun c hc => by rw [hi] at hc; cases hc⟩
    · exact ⟨t, by rw [upd_other e]; exact hx, rfl, rfl, fun c hc => hc⟩
  · have e : x ≠ a := by rintro rfl; rw [ha] at hx; cases hx
    rw [upd_other e]
    exact hx

theorem link_rt (ha : m a = some ta) (hi : ta.is = none) : ∀ (n x r : Nat), nowT m n x = some r → r ≠ a → Rt (upd m a { ta with is := some b }) x r
  | 0, _, _, h, _ => by cases h
  | n + 1, x, r, h, hne => by
    have hxa : x ≠ a := by
      rintro rfl
      rw [nowT, ha] at h
      simp [hi] at h
      exact hne h.symm
    rw [nowT] at h
    cases hx : m x with
    | none => rw [hx] at h; cases h
    | some t =>
      rw [hx] at h
      simp only [Option.bind_some] at h
      have hx' : upd m a { ta with is := some b } x = some t := by rw [upd_other hxa]; exact hx
      cases hti : t.is with
      | none =>
        rw [hti] at h
        injection h with h
        subst h
        exact Rt.self hx' hti
      | some c =>
        rw [hti] at h
        exact Rt.link hx' hti (link_rt ha hi n c r h hne)

theorem link_rt' (ha : m a = some ta) (hi : ta.is = none) {β : Nat} (hb : Rt m b β) (hβ : β ≠ a) {x : Nat} (hx : Rt m x a) : Rt (upd m a { ta with is := some b }) x β := by
  obtain ⟨n, hx⟩ := hx
  obtain ⟨k, hb⟩ := hb
  exact (link_ex ha hi).rt n x a hx (Rt.link upd_same rfl (link_rt ha hi k b β hb hβ))

/-- The ranks behind a link. -/
theorem link_inv (hI : Inv m) (ha : m a = some ta) (hi : ta.is = none) {tb : TN} (hb : m b = some tb) {β : Nat} (hβ : Rt m b β) (hne : β ≠ a)
    (hrk : ∃ rho : Nat → Nat, (∀ x y, cls m x y → rho x = rho y) ∧ (∀ x y, Rt m x a → Rt m y β → rho x = rho y) ∧ ∀ x t, m x = some t → t.is = none → x ≠ a → ∀ s ∈ t.subs, rho s < rho x)
    (hcg : ta.k ≠ [] → ta.k = tb.k ∧ ∀ (i : Nat) s s', ta.subs[i]? = some s → tb.subs[i]? = some s' → cls m s s') : Inv (upd m a { ta with is := some b }) := by
  classical
  have hex := link_ex (b := b) ha hi
  obtain ⟨rho0, lam, K, hK, hr⟩ := hI.rk
  obtain ⟨rho, r1, r2, r3⟩ := hrk
  have hcl : ∀ x t, upd m a { ta with is := some b } x = some t → (∀ s ∈ t.subs, ∃ u, upd m a { ta with is := some b } s = some u) ∧ ∀ c, t.is = some c → ∃ u, upd m a { ta with is := some b } c = some u := by
    have up : ∀ y, (∃ u, m y = some u) → ∃ u, upd m a { ta with is := some b } y = some u := by
      rintro y ⟨u, hu⟩
      obtain ⟨u', hu', -⟩ := hex.1 y u hu
      exact ⟨u', hu'⟩
    intro x t hx
    by_cases e : x = a
    · subst e
      rw [upd_same] at hx
      injection hx with hx
      subst hx
      exact ⟨fun s hs => up s ((hI.cl x ta ha).1 s hs), fun c hc => up c (by injection hc with hc; rw [← hc]; exact ⟨tb, hb⟩)⟩
    · rw [upd_other e] at hx
      exact ⟨fun s hs => up s ((hI.cl x t hx).1 s hs), fun c hc => up c ((hI.cl x t hx).2 c hc)⟩
  have hrk' : ∃ (rho lam : Nat → Nat) (K : Nat), (∀ x, lam x ≤ K) ∧ ∀ x t, upd m a { ta with is := some b } x = some t → (∀ c, t.is = some c → lam c < lam x ∧ rho c = rho x) ∧ (t.is = none → ∀ s ∈ t.subs, rho s < rho x) := by
    refine ⟨rho, fun y => if Rt m y a then lam y + lam b + 1 else lam y, 2 * K + 1, fun x => ?_, fun x t hx => ?_⟩
    · have h1 := hK x
      have h2 := hK b
      show (if Rt m x a then lam x + lam b + 1 else lam x) ≤ _
      split <;> omega
    · by_cases e : x = a
      · subst e
        rw [upd_same] at hx
        injection hx with hx
        subst hx
        refine ⟨fun c hc => ?_, fun h => by cases h⟩
        injection hc with hc
        subst hc
        have hba : ¬ Rt m b x := fun h => hne (Rt.det hβ h)
        have haa : Rt m x x := Rt.self ha hi
        refine ⟨?_, ?_⟩
        · show (if Rt m b x then _ else _) < (if Rt m x x then _ else _)
          rw [if_neg hba, if_pos haa]
          omega
        · exact (r2 x b haa hβ).symm
      · rw [upd_other e] at hx
        refine ⟨fun c hc => ?_, fun hn s hs => ?_⟩
        · obtain ⟨u, hu⟩ := (hI.cl x t hx).2 c hc
          obtain ⟨r, hrc⟩ := hI.root hu
          have hrx : Rt m x r := Rt.link hx hc hrc
          have h1 := ((hr x t hx).1 c hc).1
          refine ⟨?_, r1 c x ⟨r, hrc, hrx⟩⟩
          show (if Rt m c a then _ else _) < (if Rt m x a then _ else _)
          by_cases hca : Rt m c a
          · rw [if_pos hca, if_pos (Rt.link hx hc hca)]
            omega
          · have hxa : ¬ Rt m x a := fun h => hca (by rw [← Rt.det hrx h]; exact hrc)
            rw [if_neg hca, if_neg hxa]
            exact h1
        · exact r3 x t hx hn e s hs
  refine ⟨hcl, fun x t hx => ?_, hrk', fun x t c u hx hic hu hk => ?_⟩
  · by_cases e : x = a
    · subst e
      rw [upd_same] at hx
      injection hx with hx
      subst hx
      exact hI.ar x ta ha
    · rw [upd_other e] at hx
      exact hI.ar x t hx
  · have hcls : ∀ s s', cls m s s' → cls (upd m a { ta with is := some b }) s s' := by
      rintro s s' ⟨r, h1, h2⟩
      by_cases e : r = a
      · subst e
        exact ⟨β, link_rt' ha hi hβ hne h1, link_rt' ha hi hβ hne h2⟩
      · obtain ⟨n1, h1⟩ := h1
        obtain ⟨n2, h2⟩ := h2
        exact ⟨r, link_rt ha hi n1 s r h1 e, link_rt ha hi n2 s' r h2 e⟩
    have hu' : ∃ u0, m c = some u0 ∧ u0.k = u.k ∧ u0.subs = u.subs := by
      by_cases e : c = a
      · subst e
        rw [upd_same] at hu
        injection hu with hu
        subst hu
        exact ⟨ta, ha, rfl, rfl⟩
      · rw [upd_other e] at hu
        exact ⟨u, hu, rfl, rfl⟩
    obtain ⟨u0, v1, v2, v3⟩ := hu'
    by_cases e : x = a
    · subst e
      rw [upd_same] at hx
      injection hx with hx
      subst hx
      injection hic with hic
      subst hic
      rw [hb] at v1
      injection v1 with v1
      subst v1
      obtain ⟨g1, g2⟩ := hcg hk
      refine ⟨by rw [← v2]; exact g1, fun i s s' h1 h2 => hcls s s' (g2 i s s' h1 (by rw [v3]; exact h2))⟩
    · rw [upd_other e] at hx
      obtain ⟨g1, g2⟩ := hI.cg x t c u0 hx hic v1 hk
      exact ⟨by rw [← v2]; exact g1, fun i s s' h1 h2 => hcls s s' (g2 i s s' h1 (by rw [v3]; exact h2))⟩

/-- An unknown is found to be another, in which it does not stand. -/
theorem var_inv (hI : Inv m) (ha : m a = some ta) (hi : ta.is = none) (hk : ta.k = []) {tb : TN} (hb : m b = some tb) (hbi : tb.is = none) (hne : b ≠ a) (hno : ¬ Rch m b a) : Inv (upd m a { ta with is := some b }) := by
  classical
  obtain ⟨rho0, lam, K, hK, hr⟩ := hI.rk
  have hcr : ∀ x y, cls m x y → rho0 x = rho0 y := by
    rintro x y ⟨r, ⟨n, h1⟩, ⟨k, h2⟩⟩
    rw [← rho_rt hr n x r h1, ← rho_rt hr k y r h2]
  refine link_inv hI ha hi hb (Rt.self hb hbi) hne ⟨fun y => if Rt m y a then rho0 b else if Rch m y a then rho0 y + rho0 b + 1 else rho0 y, ?_, ?_, ?_⟩ (fun h => (h hk).elim)
  · rintro x y ⟨r, h1, h2⟩
    have e1 : Rt m x a ↔ Rt m y a := ⟨fun h => by rw [← Rt.det h1 h]; exact h2, fun h => by rw [← Rt.det h2 h]; exact h1⟩
    have e2 : Rch m x a ↔ Rch m y a := ⟨Rch.cls ⟨r, h1, h2⟩, Rch.cls ⟨r, h2, h1⟩⟩
    have e3 := hcr x y ⟨r, h1, h2⟩
    show (if Rt m x a then _ else if Rch m x a then _ else _) = (if Rt m y a then _ else if Rch m y a then _ else _)
    simp only [e1, e2, e3]
  · intro x y hx hy
    have hya : ¬ Rt m y a := fun h => hne (Rt.det hy h)
    have hbb : Rt m b b := Rt.self hb hbi
    have hyr : ¬ Rch m y a := fun h => hno (Rch.cls ⟨b, hy, hbb⟩ h)
    show (if Rt m x a then _ else if Rch m x a then _ else _) = (if Rt m y a then _ else if Rch m y a then _ else _)
    rw [if_pos hx, if_neg hya, if_neg hyr]
    exact hcr b y ⟨b, hbb, hy⟩
  · intro x t hx hn hxa s hs
    have hxr : Rt m x x := Rt.self hx hn
    have hx1 : ¬ Rt m x a := fun h => hxa (Rt.det hxr h)
    have hlt := (hr x t hx).2 hn s hs
    show (if Rt m s a then _ else if Rch m s a then _ else _) < (if Rt m x a then _ else if Rch m x a then _ else _)
    rw [if_neg hx1]
    by_cases h1 : Rt m s a
    · rw [if_pos h1, if_pos (Rch.step hxr hx hs (Rch.here h1))]
      omega
    · rw [if_neg h1]
      by_cases h2 : Rch m s a
      · rw [if_pos h2, if_pos (Rch.step hxr hx hs h2)]
        omega
      · rw [if_neg h2]
        split <;> omega

/-- A node is found to be another one of its kind, their parts being the same. -/
theorem node_inv (hI : Inv m) (ha : m a = some ta) (hi : ta.is = none) (hk : ta.k ≠ []) {tb : TN} (hb : m b = some tb) (hkb : ta.k = tb.k) {β : Nat} (hβ : Rt m b β) (hne : β ≠ a) (hsub : ∀ (i : Nat) s s', ta.subs[i]? = some s → tb.subs[i]? = some s' → cls m s s') : Inv (upd m a { ta with is := some b }) := by
  classical
  obtain ⟨rho0, lam, K, hK, hr⟩ := hI.rk
  have hcr : ∀ x y, cls m x y → rho0 x = rho0 y := by
    rintro x y ⟨r, ⟨n, h1⟩, ⟨k, h2⟩⟩
    rw [← rho_rt hr n x r h1, ← rho_rt hr k y r h2]
  obtain ⟨kk, hβk⟩ := hβ
  obtain ⟨tβ, hβ1, hβ2⟩ := Rt.root hβk
  have hββ : Rt m β β := Rt.self hβ1 hβ2
  have haa : Rt m a a := Rt.self ha hi
  obtain ⟨u, f1, f2, f3⟩ := hI.cong kk b β tb hβk hb (by rw [← hkb]; exact hk)
  rw [hβ1] at f1
  injection f1 with f1
  subst f1
  -- the parts of β are below both
  have hchild : ∀ s ∈ tβ.subs, rho0 s < rho0 a ∧ rho0 s < rho0 β := by
    intro s hs
    refine ⟨?_, (hr β tβ hβ1).2 hβ2 s hs⟩
    obtain ⟨i, hil, his⟩ := List.getElem_of_mem hs
    have l1 : i < tb.subs.length := by rw [hI.ar b tb hb, f2, ← hI.ar β tβ hβ1]; exact hil
    have l2 : i < ta.subs.length := by rw [hI.ar a ta ha, hkb, ← hI.ar b tb hb]; exact l1
    have g1 := hsub i ta.subs[i] tb.subs[i] (List.getElem?_eq_getElem l2) (List.getElem?_eq_getElem l1)
    have g2 := f3 i tb.subs[i] s (List.getElem?_eq_getElem l1) (by rw [List.getElem?_eq_getElem hil, his])
    rw [← hcr _ _ (g1.trans g2)]
    exact (hr a ta ha).2 hi _ (List.getElem_mem l2)
  refine link_inv hI ha hi hb ⟨kk, hβk⟩ hne ⟨fun y => if Rt m y a ∨ Rt m y β then min (rho0 a) (rho0 β) else rho0 y, ?_, ?_, ?_⟩ (fun _ => ⟨hkb, hsub⟩)
  · rintro x y ⟨r, h1, h2⟩
    have e1 : ∀ z, Rt m x z ↔ Rt m y z := fun z => ⟨fun h => by rw [← Rt.det h1 h]; exact h2, fun h => by rw [← Rt.det h2 h]; exact h1⟩
    have e3 := hcr x y ⟨r, h1, h2⟩
    show (if Rt m x a ∨ Rt m x β then _ else _) = (if Rt m y a ∨ Rt m y β then _ else _)
    simp only [e1, e3]
  · intro x y hx hy
    show (if Rt m x a ∨ Rt m x β then _ else _) = (if Rt m y a ∨ Rt m y β then _ else _)
    rw [if_pos (.inl hx), if_pos (.inr hy)]
  · intro x t hx hn hxa s hs
    have hxr : Rt m x x := Rt.self hx hn
    have hlt := (hr x t hx).2 hn s hs
    show (if Rt m s a ∨ Rt m s β then _ else _) < (if Rt m x a ∨ Rt m x β then _ else _)
    by_cases e : x = β
    · subst e
      rw [hβ1] at hx
      injection hx with hx
      subst hx
      obtain ⟨c1, c2⟩ := hchild s hs
      rw [if_pos (show Rt m x a ∨ Rt m x x from .inr hββ)]
      rw [if_neg (show ¬ (Rt m s a ∨ Rt m s x) from by
        rintro (h | h)
        · have := hcr s a ⟨a, h, haa⟩; omega
        · have := hcr s x ⟨x, h, hββ⟩; omega)]
      omega
    · rw [if_neg (show ¬ (Rt m x a ∨ Rt m x β) from by
        rintro (h | h)
        · exact hxa (Rt.det hxr h)
        · exact e (Rt.det hxr h))]
      split
      · rename_i h
        rcases h with h | h
        · have := hcr s a ⟨a, h, haa⟩; omega
        · have := hcr s β ⟨β, h, hββ⟩; omega
      · exact hlt
end
end Go.Proofs.YtnbhnjokpcdnnaaGreatDoor

namespace Go.Proofs.YtnbhnjokpcdnnaaGreatDoor
section

theorem sameL_up {R R' : TyS → Nat → Nat → Option TyS} (h : ∀ s a b x, R s a b = some x → R' s a b = some x) : ∀ (l l' : List Nat) (s x : TyS), sameL R l l' s = some x → sameL R' l l' s = some x
  | [], _, _, _, hx => hx
  | a :: l, b :: l', s, x, hx => by
    rw [sameL] at hx ⊢
    cases h1 : R s a b with
    | none => rw [h1] at hx; cases hx
    | some y =>
      rw [h1] at hx
      rw [h s a b y h1]
      exact sameL_up h l l' y x hx
  | _ :: _, [], _, _, hx => by cases hx

theorem sameT_up : ∀ (n k : Nat) (s : TyS) (a b : Nat) (x : TyS), n ≤ k → sameT n s a b = some x → sameT k s a b = some x
  | 0, _, _, _, _, _, _, h => by cases h
  | n + 1, 0, _, _, _, _, h, _ => by omega
  | n + 1, k + 1, s, a0, b0, x, h, hx => by
    rw [sameT] at hx ⊢
    cases h1 : nowT s.m n a0 with
    | none => rw [h1] at hx; cases hx
    | some a =>
      rw [h1] at hx
      rw [nowT_up n k a0 a (by omega) h1]
      simp only [Option.bind_some] at hx ⊢
      cases h2 : nowT s.m n b0 with
      | none => rw [h2] at hx; cases hx
      | some b =>
        rw [h2] at hx
        rw [nowT_up n k b0 b (by omega) h2]
        simp only [Option.bind_some] at hx ⊢
        split at hx
        · rename_i hc; rw [if_pos hc]; exact hx
        rename_i hc
        rw [if_neg hc]
        cases h3 : s.m a with
        | none => rw [h3] at hx; cases hx
        | some ta =>
          rw [h3] at hx
          simp only [Option.bind_some] at hx ⊢
          cases h4 : s.m b with
          | none => rw [h4] at hx; cases hx
          | some tb =>
            rw [h4] at hx
            simp only [Option.bind_some] at hx ⊢
            split at hx
            · rename_i hd; rw [if_pos hd]; exact sameT_up n k s b a x (by omega) hx
            rename_i hd
            rw [if_neg hd]
            split at hx
            · rename_i he
              rw [if_pos he]
              cases h5 : insT (s.sw + 1) a n s.m b with
              | none => rw [h5] at hx; cases hx
              | some y =>
                rw [h5] at hx
                rw [insT_up n k s.m b y (by omega) h5]
                exact hx
            rename_i he
            rw [if_neg he]
            split at hx
            · rename_i hf; rw [if_pos hf]; exact hx
            rename_i hf
            rw [if_neg hf]
            cases h5 : sameL (sameT n) ta.subs tb.subs s with
            | none => rw [h5] at hx; cases hx
            | some y =>
              rw [h5] at hx
              rw [sameL_up (fun s a b x => sameT_up n k s a b x (by omega)) _ _ _ _ h5]
              exact hx

/-- What two lists of parts come to. -/
def LoopOk (N : Nat) (s : TyS) (l l' : List Nat) : Prop := ∃ n s', sameL (sameT n) l l' s = some s' ∧ Inv s'.m ∧ Ex s.m s'.m ∧ Dm s'.m N s'.sw ∧ s.sw ≤ s'.sw ∧ (s.bad = true → s' = s) ∧
  s'.sw + (cnt s'.m N : Int) ≤ s.sw + (cnt s.m N : Int) + (if s'.bad = true ∧ s.bad = false then 1 else 0) ∧
  (s'.bad = false → (∀ (i : Nat) x y, l[i]? = some x → l'[i]? = some y → cls s'.m x y) ∧ ∀ p q tp tq, s.m p = some tp → s.m q = some tq → tp.k ≠ [] → tq.k ≠ [] → ¬ cls s.m p q → cls s'.m p q → ∃ x ∈ l, ∃ y ∈ l', Rc s'.m x p ∧ Rc s'.m y p)

theorem loop_ok {N : Nat} {s0 : TyS} {L L' : List Nat} (H : ∀ s1 : TyS, Inv s1.m → Dm s1.m N s1.sw → Ex s0.m s1.m → ∀ x ∈ L, ∀ y ∈ L', SameOk N s1 x y) : ∀ (l l' : List Nat) (s1 : TyS), l.length = l'.length → (∀ x ∈ l, x ∈ L) → (∀ y ∈ l', y ∈ L') → Inv s1.m → Dm s1.m N s1.sw → Ex s0.m s1.m → LoopOk N s1 l l'
  | [], l', s1, hl, _, _, hI, hD, _ => ⟨0, s1, rfl, hI, Ex.refl _, hD, Int.le_refl _, fun _ => rfl, by split <;> omega, fun _ => ⟨fun i x y h => by simp at h, fun p q tp tq _ _ _ _ h1 h2 => (h1 h2).elim⟩⟩
  | a :: l, [], s1, hl, _, _, _, _, _ => by simp at hl
  | a :: l, b :: l', s1, hl, h1, h2, hI, hD, hE => by
    obtain ⟨n1, s2, e1, e2, e3, e4, e5, e6, e7, e8⟩ := H s1 hI hD hE a (h1 a (by simp)) b (h2 b (by simp))
    obtain ⟨n2, s3, f1, f2, f3, f4, f5, f6, f7, f8⟩ := loop_ok H l l' s2 (by simpa using hl) (fun x hx => h1 x (by simp [hx])) (fun y hy => h2 y (by simp [hy])) e2 e4 (hE.trans e3)
    refine ⟨n1 + n2, s3, ?_, f2, e3.trans f3, f4, by omega, fun hb => ?_, ?_, fun hb => ?_⟩
    · rw [sameL, sameT_up n1 (n1 + n2) s1 a b s2 (by omega) e1]
      exact sameL_up (fun s a b x => sameT_up n2 (n1 + n2) s a b x (by omega)) _ _ _ _ f1
    · have h3 := e6 hb
      have h4 := f6 (by rw [h3]; exact hb)
      rw [h4, h3]
    · cases hb1 : s1.bad with
      | true =>
        have h3 := e6 hb1
        have h4 := f6 (by rw [h3]; exact hb1)
        rw [h4, h3]
        split <;> omega
      | false =>
        cases hb2 : s2.bad with
        | true =>
          have h4 := f6 hb2
          rw [h4, hb2]
          rw [hb1, hb2] at e7
          simpa using e7
        | false =>
          rw [hb1, hb2] at e7
          rw [hb2] at f7
          simp at e7 f7 ⊢
          split
          · rename_i hb3; rw [if_pos hb3] at f7; omega
          · rename_i hb3; rw [if_neg hb3] at f7; omega
    · have hb2 : s2.bad = false := by
        cases hb2 : s2.bad with
        | false => rfl
        | true =>
          have h4 := f6 hb2
          rw [h4, hb2] at hb
          cases hb
      obtain ⟨g1, g2⟩ := e8 hb2
      obtain ⟨k1, k2⟩ := f8 hb
      refine ⟨fun i x y hx hy => ?_, fun p q tp tq hp hq hkp hkq hn hc => ?_⟩
      · cases i with
        | zero =>
          simp at hx hy
          subst hx hy
          exact f3.cls f2 g1
        | succ i => exact k1 i x y (by simpa using hx) (by simpa using hy)
      · by_cases hc2 : cls s2.m p q
        · obtain ⟨r1, r2⟩ := g2 p q tp tq hp hq hkp hkq hn hc2
          exact ⟨a, by simp, b, by simp, f3.rc e2 f2 r1, f3.rc e2 f2 r2⟩
        · obtain ⟨tp', p1, p2, -⟩ := e3.1 p tp hp
          obtain ⟨tq', q1, q2, -⟩ := e3.1 q tq hq
          obtain ⟨x, hx, y, hy, r1, r2⟩ := k2 p q tp' tq' p1 q1 (by rw [p2]; exact hkp) (by rw [q2]; exact hkq) hc2 hc
          exact ⟨x, by simp [hx], y, by simp [hy], r1, r2⟩

variable {m : Nat → Option TN}

/-- A node does not stand in its own parts. -/
theorem no_rec (hI : Inv m) {a x : Nat} {t : TN} (ha : m a = some t) (hk : t.k ≠ []) (hx : x ∈ t.subs) : ¬ Rc m x a := by
  rintro ⟨z, ⟨n, hz⟩, ⟨k, hr⟩⟩
  obtain ⟨rho, lam, K, hK, hrk⟩ := hI.rk
  obtain ⟨u, f1, f2, f3⟩ := hI.cong n a z t hz ha hk
  obtain ⟨i, hi, his⟩ := List.getElem_of_mem hx
  have hi' : i < u.subs.length := by rw [hI.ar z u f1, ← f2, ← hI.ar a t ha]; exact hi
  obtain ⟨r, ⟨n1, g1⟩, ⟨n2, g2⟩⟩ := f3 i x u.subs[i] (by rw [List.getElem?_eq_getElem hi, his]) (List.getElem?_eq_getElem hi')
  obtain ⟨t', h1, h2⟩ := Rt.root hz
  rw [f1] at h1
  injection h1 with h1
  subst h1
  have e1 := (hrk z u f1).2 h2 u.subs[i] (List.getElem_mem hi')
  have e2 := rho_rt hrk n1 x r g1
  have e3 := rho_rt hrk n2 _ r g2
  have e4 := rch_rho hrk k x hr
  omega

/-- What stands in a part stands in the node. -/
theorem rc_part (hI : Inv m) {a x p : Nat} {t : TN} (ha : m a = some t) (hk : t.k ≠ []) (hx : x ∈ t.subs) (h : Rc m x p) : Rc m a p := by
  obtain ⟨z, h1, h2⟩ := h
  obtain ⟨r, ⟨n, hr⟩⟩ := hI.root ha
  obtain ⟨u, f1, f2, f3⟩ := hI.cong n a r t hr ha hk
  obtain ⟨i, hi, his⟩ := List.getElem_of_mem hx
  have hi' : i < u.subs.length := by rw [hI.ar r u f1, ← f2, ← hI.ar a t ha]; exact hi
  have hc := f3 i x u.subs[i] (by rw [List.getElem?_eq_getElem hi, his]) (List.getElem?_eq_getElem hi')
  exact ⟨z, h1, Rch.step ⟨n, hr⟩ f1 (List.getElem_mem hi') (Rch.cls hc h2)⟩

/-- Marks are of this sweep, or as they were. -/
theorem ins_seen {sw : Int} {a : Nat} : ∀ (n : Nat) (m m' : Nat → Option TN) (b : Nat) (r : Bool), insT sw a n m b = some (m', r) → ∀ x t', m' x = some t' → t'.seen = sw ∨ ∃ t, m x = some t ∧ t.seen = t'.seen
  | 0, _, _, _, _, h => by cases h
  | n + 1, m, m', b, r, h => by
    have hL : ∀ (l : List Nat) (m m' : Nat → Option TN) (r : Bool), insL (insT sw a n) l m = some (m', r) → ∀ x t', m' x = some t' → t'.seen = sw ∨ ∃ t, m x = some t ∧ t.seen = t'.seen := by
      intro l
      induction l with
      | nil =>
        intro m m' r h x t' hx
        rw [insL] at h
        injection h with h
        rw [← (Prod.mk.inj h).1] at hx
        exact .inr ⟨t', hx, rfl⟩
      | cons s l ih =>
        intro m m' r h x t' hx
        rw [insL] at h
        cases h1 : insT sw a n m s with
        | none => rw [h1] at h; cases h
        | some y =>
          rw [h1] at h
          simp only [Option.bind_some] at h
          have hy := ins_seen n m y.1 s y.2 h1
          split at h
          · injection h with h
            rw [h] at hy
            exact hy x t' hx
          · rcases ih y.1 m' r h x t' hx with h2 | ⟨t, h2, h3⟩
            · exact .inl h2
            · rcases hy x t h2 with h4 | ⟨t1, h4, h5⟩
              · exact .inl (by rw [← h3]; exact h4)
              · exact .inr ⟨t1, h4, h5.trans h3⟩
    rw [insT] at h
    cases h1 : nowT m n b with
    | none => rw [h1] at h; cases h
    | some r0 =>
      rw [h1] at h
      simp only [Option.bind_some] at h
      split at h
      · injection h with h
        intro x t' hx
        rw [← (Prod.mk.inj h).1] at hx
        exact .inr ⟨t', hx, rfl⟩
      · cases h2 : m r0 with
        | none => rw [h2] at h; cases h
        | some t =>
          rw [h2] at h
          simp only [Option.bind_some] at h
          split at h
          · injection h with h
            intro x t' hx
            rw [← (Prod.mk.inj h).1] at hx
            exact .inr ⟨t', hx, rfl⟩
          · intro x t' hx
            rcases hL _ _ _ _ h x t' hx with h3 | ⟨t1, h3, h4⟩
            · exact .inl h3
            · by_cases e : x = r0
              · subst e
                rw [upd_same] at h3
                injection h3 with h3
                rw [← h3] at h4
                exact .inl h4.symm
              · rw [upd_other e] at h3
                exact .inr ⟨t1, h3, h4⟩

/-- An unknown and another. -/
theorem var_case {N : Nat} {s : TyS} (hI : Inv s.m) (hD : Dm s.m N s.sw) (hbad : s.bad = false) {a b : Nat} {ta tb : TN} (ha : s.m a = some ta) (hai : ta.is = none) (hak : ta.k = []) (hb : s.m b = some tb) (hbi : tb.is = none) (hne : a ≠ b) :
    ∃ n0 s', (∀ n, n0 ≤ n → ((insT (s.sw + 1) a n s.m b).bind fun x => if x.2 then some (⟨x.1, true, s.sw + 1⟩ : TyS) else (x.1 a).bind fun t => some ⟨upd x.1 a { t with is := some b }, false, s.sw + 1⟩) = some s') ∧ Inv s'.m ∧ Ex s.m s'.m ∧ Dm s'.m N s'.sw ∧ s.sw ≤ s'.sw ∧
      s'.sw + (cnt s'.m N : Int) ≤ s.sw + (cnt s.m N : Int) + (if s'.bad = true ∧ s.bad = false then 1 else 0) ∧ (s'.bad = false → cls s'.m a b ∧ ∀ p q tp tq, s.m p = some tp → s.m q = some tq → tp.k ≠ [] → tq.k ≠ [] → ¬ cls s.m p q → ¬ cls s'.m p q) := by
  obtain ⟨rho, lam, K, hK, hr⟩ := hI.rk
  obtain ⟨n, m1, r, e1, e2, e3, e4⟩ := ins_ok (sw := s.sw + 1) (a := a) hK (rho b + 1) s.m b tb hr hI.cl hb (by omega)
  have hI1 := e2.inv hI
  have hD1 : Dm m1 N (s.sw + 1) := by
    intro x t hx
    obtain ⟨t0, g1, -⟩ := e2.symm.at hx
    obtain ⟨k1, k2⟩ := hD x t0 g1
    refine ⟨k1, ?_⟩
    rcases ins_seen n s.m m1 b r e1 x t hx with h | ⟨t1, h1, h2⟩
    · omega
    · have := (hD x t1 h1).2
      omega
  cases r with
  | true =>
    refine ⟨n, ⟨m1, true, s.sw + 1⟩, fun k hk => ?_, hI1, e2.ex, hD1, by show s.sw ≤ s.sw + 1; omega, ?_, fun h => by cases h⟩
    · rw [insT_up n k s.m b _ hk e1]; rfl
    · show s.sw + 1 + (cnt m1 N : Int) ≤ _
      rw [cnt_sm e2, hbad]
      simp
      omega
  | false =>
    have hno : ¬ Rch s.m b a := e4 rfl (fun x t hx hs _ _ => by have := (hD x t hx).2; omega)
    obtain ⟨ta1, g1, g2, g3, g4⟩ := e2.at ha
    obtain ⟨tb1, h1, h2, h3, h4⟩ := e2.at hb
    have hai1 : ta1.is = none := by rw [g4]; exact hai
    have hbi1 : tb1.is = none := by rw [h4]; exact hbi
    have hIv := var_inv hI1 g1 hai1 (by rw [g2]; exact hak) h1 hbi1 (fun h => hne h.symm) (fun h => hno (h.sm e2.symm))
    have hbb : Rt m1 b b := Rt.self h1 hbi1
    have haa : Rt m1 a a := Rt.self g1 hai1
    refine ⟨n, ⟨upd m1 a { ta1 with is := some b }, false, s.sw + 1⟩, fun k hk => ?_, hIv, e2.ex.trans (link_ex g1 hai1), ?_, by show s.sw ≤ s.sw + 1; omega, ?_, fun _ => ⟨?_, ?_⟩⟩
    · rw [insT_up n k s.m b _ hk e1]
      simp only [Option.bind_some]
      rw [if_neg (by decide), g1]
      rfl
    · intro x t hx
      by_cases e : x = a
      · subst e
        have hx' : some { ta1 with is := some b } = some t := by rw [← hx]; exact upd_same.symm
        injection hx' with hx'
        subst hx'
        exact hD1 x ta1 g1
      · have hx' : m1 x = some t := by rw [← hx]; exact (upd_other e).symm
        exact hD1 x t hx'
    · have h5 := cnt_link (c := b) g1 hai1 N (hD1 a ta1 g1).1
      have h6 := cnt_sm e2 N
      show s.sw + 1 + (cnt (upd m1 a { ta1 with is := some b }) N : Int) ≤ _
      split <;> omega
    · exact ⟨b, link_rt' g1 hai1 hbb (fun h => hne h.symm) haa, by obtain ⟨k, hk⟩ := hbb; exact link_rt g1 hai1 k b b hk (fun h => hne h.symm)⟩
    · intro p q tp tq hp hq hkp hkq hn hc
      refine hn ?_
      -- nodes that are no unknowns keep their class
      have keep : ∀ p tp, s.m p = some tp → tp.k ≠ [] → ∃ r, Rt s.m p r ∧ r ≠ a := by
        intro p tp hp hkp
        obtain ⟨r, ⟨k, hr⟩⟩ := hI.root hp
        obtain ⟨u, f1, f2, -⟩ := hI.cong k p r tp hr hp hkp
        refine ⟨r, ⟨k, hr⟩, ?_⟩
        rintro rfl
        rw [ha] at f1
        injection f1 with f1
        subst f1
        rw [f2] at hkp
        exact hkp hak
      obtain ⟨rp, k1, k2⟩ := keep p tp hp hkp
      obtain ⟨rq, k3, k4⟩ := keep q tq hq hkq
      obtain ⟨np, k1'⟩ := e2.rt k1
      obtain ⟨nq, k3'⟩ := e2.rt k3
      have j1 := link_rt (b := b) g1 hai1 np p rp k1' k2
      have j2 := link_rt (b := b) g1 hai1 nq q rq k3' k4
      obtain ⟨rr, c1, c2⟩ := hc
      obtain rfl := Rt.det j1 c1
      obtain rfl := Rt.det j2 c2
      exact ⟨rq, k1, k3⟩
end
end Go.Proofs.YtnbhnjokpcdnnaaGreatDoor

namespace Go.Proofs.YtnbhnjokpcdnnaaGreatDoor
section

theorem ex_sm {m m' : Nat → Option TN} {N : Nat} {sw : Int} (h : Ex m m') (hD : Dm m N sw) (hc : cnt m' N = cnt m N) : Sm m m' := by
  intro x
  cases hx : m x with
  | none => rw [h.2 x hx]
  | some t =>
    obtain ⟨t', e1, e2, e3, -⟩ := h.1 x t hx
    have := (cnt_ex h N).2 hc x t t' (hD x t hx).1 hx e1
    rw [e1]
    simp [e2, e3, this]

/-- 'same' ends, keeps the store sound, and makes the two the same. -/
theorem same_ok {N : Nat} : ∀ (c d : Nat) (s : TyS) (x y : Nat) (tx ty : TN), Inv s.m → Dm s.m N s.sw → cnt s.m N ≤ c → (∃ (rho lam : Nat → Nat) (K : Nat), (∀ x, lam x ≤ K) ∧ RkP rho lam s.m ∧ rho x < d) → s.m x = some tx → s.m y = some ty → SameOk N s x y := by
  intro c
  induction c with
  | zero =>
    intro d
    exact fun s x y tx ty hI hD hc hr hx hy => by
      -- every class has a root, which is counted
      obtain ⟨r, ⟨n, hr0⟩⟩ := hI.root hx
      obtain ⟨t, h1, h2⟩ := Rt.root hr0
      have h3 := cnt_link (c := 0) h1 h2 N (hD r t h1).1
      omega
  | succ c IHc =>
    intro d
    induction d with
    | zero =>
      intro s x y tx ty hI hD hc hr hx hy
      obtain ⟨rho, lam, K, hK, hrk, h⟩ := hr
      omega
    | succ d IHd =>
      intro s x y tx ty hI hD hc hr hx hy
      obtain ⟨rho, lam, K, hK, hrk, hxd⟩ := hr
      obtain ⟨K0, hK0⟩ := hI.rt
      obtain ⟨a, ha0⟩ := hK0 x tx hx
      obtain ⟨b, hb0⟩ := hK0 y ty hy
      obtain ⟨ta, ha, hai⟩ := Rt.root ha0
      obtain ⟨tb, hb, hbi⟩ := Rt.root hb0
      have hxa : Rt s.m x a := ⟨_, ha0⟩
      have hyb : Rt s.m y b := ⟨_, hb0⟩
      have haa : Rt s.m a a := Rt.self ha hai
      have hbb : Rt s.m b b := Rt.self hb hbi
      by_cases hstop : s.bad = true ∨ a = b
      · refine ⟨K0 + 2, s, ?_, hI, Ex.refl _, hD, Int.le_refl _, fun _ => rfl, by split <;> omega, fun hb' => ?_⟩
        · rw [sameT, ha0]
          simp only [Option.bind_some]
          rw [hb0]
          simp only [Option.bind_some]
          rw [if_pos hstop]
        · rcases hstop with h | h
          · rw [h] at hb'; cases hb'
          · subst h
            exact ⟨⟨a, hxa, hyb⟩, fun p q tp tq _ _ _ _ h1 h2 => (h1 h2).elim⟩
      have hbad : s.bad = false := by
        cases h : s.bad with
        | false => rfl
        | true => exact (hstop (.inl h)).elim
      have hne : a ≠ b := fun h => hstop (.inr h)
      have unf : ∀ n, K0 + 1 ≤ n → sameT (n + 1) s x y = (if ta.k ≠ [] ∧ tb.k = [] then sameT n s b a
          else if ta.k = [] then (insT (s.sw + 1) a n s.m b).bind fun x => if x.2 then some ⟨x.1, true, s.sw + 1⟩ else (x.1 a).bind fun t => some ⟨upd x.1 a { t with is := some b }, false, s.sw + 1⟩
          else if ta.k ≠ tb.k then some { s with bad := true }
          else (sameL (sameT n) ta.subs tb.subs s).bind fun s' => if s'.bad then some s' else (s'.m a).bind fun t => some { s' with m := upd s'.m a { t with is := some b } }) := by
        intro n hn
        rw [sameT, nowT_up (K0 + 1) n x a hn ha0]
        simp only [Option.bind_some]
        rw [nowT_up (K0 + 1) n y b hn hb0]
        simp only [Option.bind_some]
        rw [if_neg hstop, ha]
        simp only [Option.bind_some]
        rw [hb]
        rfl
      by_cases hswap : ta.k ≠ [] ∧ tb.k = []
      · obtain ⟨n0, s', v1, v2, v3, v4, v5, v6, v7⟩ := var_case hI hD hbad hb hbi hswap.2 ha hai (fun h => hne h.symm)
        refine ⟨n0 + K0 + 3, s', ?_, v2, v3, v4, v5, (fun h => by rw [hbad] at h; cases h), v6, fun hb' => ?_⟩
        · rw [unf (n0 + K0 + 2) (by omega), if_pos hswap, sameT]
          obtain ⟨k1, hk1⟩ := hbb
          have hb1 : nowT s.m (n0 + K0 + 1) b = some b := by rw [nowT, hb]; simp [hbi]
          have ha1 : nowT s.m (n0 + K0 + 1) a = some a := by rw [nowT, ha]; simp [hai]
          rw [hb1]
          simp only [Option.bind_some]
          rw [ha1]
          simp only [Option.bind_some]
          rw [if_neg (by rintro (h | h); rw [hbad] at h; cases h; exact hne h.symm), hb]
          simp only [Option.bind_some]
          rw [ha]
          simp only [Option.bind_some]
          rw [if_neg (fun h => h.1 hswap.2), if_pos hswap.2]
          exact v1 (n0 + K0 + 1) (by omega)
        · obtain ⟨w1, w2⟩ := v7 hb'
          refine ⟨((v3.cls v2 ⟨a, hxa, haa⟩).trans w1.symm).trans (v3.cls v2 ⟨b, hbb, hyb⟩), fun p q tp tq hp hq hkp hkq hn hc => (w2 p q tp tq hp hq hkp hkq hn hc).elim⟩
      by_cases hvar : ta.k = []
      · obtain ⟨n0, s', v1, v2, v3, v4, v5, v6, v7⟩ := var_case hI hD hbad ha hai hvar hb hbi hne
        refine ⟨n0 + K0 + 2, s', ?_, v2, v3, v4, v5, (fun h => by rw [hbad] at h; cases h), v6, fun hb' => ?_⟩
        · rw [unf (n0 + K0 + 1) (by omega), if_neg hswap, if_pos hvar]
          exact v1 (n0 + K0 + 1) (by omega)
        · obtain ⟨w1, w2⟩ := v7 hb'
          refine ⟨((v3.cls v2 ⟨a, hxa, haa⟩).trans w1).trans (v3.cls v2 ⟨b, hbb, hyb⟩), fun p q tp tq hp hq hkp hkq hn hc => (w2 p q tp tq hp hq hkp hkq hn hc).elim⟩
      by_cases hkk : ta.k ≠ tb.k
      · refine ⟨K0 + 2, { s with bad := true }, ?_, hI, Ex.refl _, hD, Int.le_refl _, (fun h => by rw [hbad] at h; cases h), ?_, fun h => by cases h⟩
        · rw [unf (K0 + 1) (Nat.le_refl _), if_neg hswap, if_neg hvar, if_pos hkk]
        · show s.sw + (cnt s.m N : Int) ≤ _
          split <;> omega
      have hkeq : ta.k = tb.k := Decidable.not_not.1 hkk
      have hlen : ta.subs.length = tb.subs.length := by rw [hI.ar a ta ha, hI.ar b tb hb, hkeq]
      have hrhoa : rho a = rho x := rho_rt hrk _ _ _ ha0
      have hloop : LoopOk N s ta.subs tb.subs := by
        refine loop_ok (s0 := s) (L := ta.subs) (L' := tb.subs) ?_ ta.subs tb.subs s hlen (fun _ h => h) (fun _ h => h) hI hD (Ex.refl _)
        intro s1 hI1 hD1 hE1 x1 hx1 y1 hy1
        obtain ⟨u1, hu1⟩ := (hI.cl a ta ha).1 x1 hx1
        obtain ⟨u1', hu1', -⟩ := hE1.1 x1 u1 hu1
        obtain ⟨u2, hu2⟩ := (hI.cl b tb hb).1 y1 hy1
        obtain ⟨u2', hu2', -⟩ := hE1.1 y1 u2 hu2
        have hle := (cnt_ex hE1 N).1
        by_cases heq : cnt s1.m N = cnt s.m N
        · have hsm := ex_sm hE1 hD heq
          exact IHd s1 x1 y1 u1' u2' hI1 hD1 (by omega) ⟨rho, lam, K, hK, hrk.sm hsm, by have := (hrk a ta ha).2 hai x1 hx1; omega⟩ hu1' hu2'
        · obtain ⟨rho1, lam1, K1, hK1, hr1⟩ := hI1.rk
          exact IHc (rho1 x1 + 1) s1 x1 y1 u1' u2' hI1 hD1 (by omega) ⟨rho1, lam1, K1, hK1, hr1, by omega⟩ hu1' hu2'
      obtain ⟨n1, s1, l1, l2, l3, l4, l5, l6, l7, l8⟩ := hloop
      cases hb1 : s1.bad with
      | true =>
        refine ⟨n1 + K0 + 2, s1, ?_, l2, l3, l4, l5, (fun h => by rw [hbad] at h; cases h), l7, fun h => by rw [hb1] at h; cases h⟩
        rw [unf (n1 + K0 + 1) (by omega), if_neg hswap, if_neg hvar, if_neg hkk, sameL_up (fun s a b x => sameT_up n1 (n1 + K0 + 1) s a b x (by omega)) _ _ _ _ l1]
        simp only [Option.bind_some]
        rw [if_pos hb1]
      | false =>
        obtain ⟨g1, g2⟩ := l8 hb1
        obtain ⟨ta1, a1, a2, a3, -⟩ := l3.1 a ta ha
        obtain ⟨tb1, b1, b2, b3, -⟩ := l3.1 b tb hb
        have hk1 : ta1.k ≠ [] := by rw [a2]; exact hvar
        -- nothing was merged with a
        have nomerge : ∀ q tq, s.m q = some tq → tq.k ≠ [] → ¬ cls s.m a q → ¬ cls s1.m a q := by
          intro q tq hq hkq hn hc'
          obtain ⟨x1, hx1, y1, -, r1, -⟩ := g2 a q ta tq ha hq hvar hkq hn hc'
          exact no_rec l2 a1 hk1 (by rw [a3]; exact hx1) r1
        obtain ⟨ra, ⟨na, hra⟩⟩ := l2.root a1
        obtain ⟨tra, hra1, hra2⟩ := Rt.root hra
        have hraa : ra = a := by
          obtain ⟨u, f1, f2, -⟩ := l2.cong na a ra ta1 hra a1 hk1
          have hdom : ∃ u0, s.m ra = some u0 := by
            cases h : s.m ra with
            | some u0 => exact ⟨u0, rfl⟩
            | none => rw [l3.2 ra h] at f1; cases f1
          obtain ⟨u0, hu0⟩ := hdom
          obtain ⟨u1, v1, v2, -, v4⟩ := l3.1 ra u0 hu0
          rw [f1] at v1
          injection v1 with v1
          subst v1
          by_cases hc' : cls s.m a ra
          · obtain ⟨z, z1, z2⟩ := hc'
            obtain rfl := Rt.det haa z1
            obtain ⟨k, hk⟩ := z2
            cases k with
            | zero => cases hk
            | succ k =>
              rw [nowT, hu0] at hk
              simp only [Option.bind_some] at hk
              cases hi : u0.is with
              | none => rw [hi] at hk; injection hk
              | some c' =>
                have := v4 c' hi
                rw [f1] at hra1
                injection hra1 with hra1
                rw [hra1, hra2] at this
                cases this
          · exact (nomerge ra u0 hu0 (by rw [← v2, ← f2]; exact hk1) hc' ⟨ra, ⟨na, hra⟩, Rt.self hra1 hra2⟩).elim
        subst hraa
        rw [a1] at hra1
        injection hra1 with hra1
        have hai1 : ta1.is = none := by rw [hra1]; exact hra2
        have haa1 : Rt s1.m ra ra := Rt.self a1 hai1
        obtain ⟨β, hβ⟩ := l2.root b1
        have hβa : β ≠ ra := by
          intro h
          have hnab : ¬ cls s.m ra b := by
            rintro ⟨z, z1, z2⟩
            exact hne ((Rt.det haa z1).trans (Rt.det hbb z2).symm)
          exact nomerge b tb hb (by rw [← hkeq]; exact hvar) hnab ⟨ra, haa1, by rw [← h]; exact hβ⟩
        have hsub : ∀ (i : Nat) p q, ta1.subs[i]? = some p → tb1.subs[i]? = some q → cls s1.m p q := fun i p q h1 h2 => g1 i p q (by rw [← a3]; exact h1) (by rw [← b3]; exact h2)
        have hIn := node_inv l2 a1 hai1 hk1 b1 (by rw [a2, b2]; exact hkeq) hβ hβa hsub
        have hEn : Ex s1.m (upd s1.m ra { ta1 with is := some b }) := link_ex a1 hai1
        have haβ : Rt (upd s1.m ra { ta1 with is := some b }) ra β := link_rt' a1 hai1 hβ hβa haa1
        have hbβ : Rt (upd s1.m ra { ta1 with is := some b }) b β := by obtain ⟨k, hk⟩ := hβ; exact link_rt a1 hai1 k b β hk hβa
        have hxβ := hEn.cls hIn (l3.cls l2 ⟨ra, hxa, haa⟩)
        have hyβ := hEn.cls hIn (l3.cls l2 ⟨b, hyb, hbb⟩)
        refine ⟨n1 + K0 + 2, { s1 with m := upd s1.m ra { ta1 with is := some b } }, ?_, hIn, l3.trans hEn, ?_, l5, (fun h => by rw [hbad] at h; cases h), ?_, fun _ => ⟨?_, ?_⟩⟩
        · rw [unf (n1 + K0 + 1) (by omega), if_neg hswap, if_neg hvar, if_neg hkk, sameL_up (fun s a b x => sameT_up n1 (n1 + K0 + 1) s a b x (by omega)) _ _ _ _ l1]
          simp only [Option.bind_some]
          rw [if_neg (by rw [hb1]; decide), a1]
          rfl
        · intro z t hz
          by_cases e : z = ra
          · subst e
            have hz' : some { ta1 with is := some b } = some t := by rw [← hz]; exact upd_same.symm
            injection hz' with hz'
            subst hz'
            exact l4 z ta1 a1
          · have hz' : s1.m z = some t := by rw [← hz]; exact (upd_other e).symm
            exact l4 z t hz'
        · have h5 := cnt_link (c := b) a1 hai1 N (l4 ra ta1 a1).1
          show s1.sw + (cnt (upd s1.m ra { ta1 with is := some b }) N : Int) ≤ _
          rw [hb1] at l7
          simp at l7
          split <;> omega
        · exact (hxβ.trans ⟨β, haβ, hbβ⟩).trans hyβ.symm
        · intro p q tp tq hp hq hkp hkq hn hc'
          by_cases hc1 : cls s1.m p q
          · obtain ⟨x1, hx1, y1, hy1, r1, r2⟩ := g2 p q tp tq hp hq hkp hkq hn hc1
            have ra1 : Rc (upd s1.m ra { ta1 with is := some b }) ra p := hEn.rc l2 hIn (rc_part l2 a1 hk1 (by rw [a3]; exact hx1) r1)
            have rb1 : Rc (upd s1.m ra { ta1 with is := some b }) b p := hEn.rc l2 hIn (rc_part l2 b1 (by rw [b2, ← hkeq]; exact hvar) (by rw [b3]; exact hy1) r2)
            exact ⟨Rc.cls hxβ.symm ra1, Rc.cls hyβ.symm rb1⟩
          · have hpβ : Rt (upd s1.m ra { ta1 with is := some b }) p β := by
              obtain ⟨tp1, p1, -⟩ := l3.1 p tp hp
              obtain ⟨tq1, q1, -⟩ := l3.1 q tq hq
              obtain ⟨rp, ⟨np, hrp⟩⟩ := l2.root p1
              obtain ⟨rq, ⟨nq, hrq⟩⟩ := l2.root q1
              by_cases e1 : rp = ra
              · subst e1
                exact link_rt' a1 hai1 hβ hβa ⟨np, hrp⟩
              · have j1 := link_rt (b := b) a1 hai1 np p rp hrp e1
                by_cases e2 : rq = ra
                · subst e2
                  have j2 := link_rt' a1 hai1 hβ hβa ⟨nq, hrq⟩
                  obtain ⟨z, z1, z2⟩ := hc'
                  rw [Rt.det z2 j2] at z1
                  exact z1
                · have j2 := link_rt (b := b) a1 hai1 nq q rq hrq e2
                  obtain ⟨z, z1, z2⟩ := hc'
                  have e3 : rp = rq := (Rt.det j1 z1).trans (Rt.det z2 j2)
                  exact (hc1 ⟨rp, ⟨np, hrp⟩, by rw [e3]; exact ⟨nq, hrq⟩⟩).elim
            have hβx : Rt (upd s1.m ra { ta1 with is := some b }) x β := by
              obtain ⟨z, z1, z2⟩ := hxβ
              rw [← Rt.det z2 haβ]
              exact z1
            have hβy : Rt (upd s1.m ra { ta1 with is := some b }) y β := by
              obtain ⟨z, z1, z2⟩ := hyβ
              rw [← Rt.det z2 hbβ]
              exact z1
            exact ⟨⟨β, hpβ, Rch.here hβx⟩, ⟨β, hpβ, Rch.here hβy⟩⟩
end
end Go.Proofs.YtnbhnjokpcdnnaaGreatDoor

/- A new node. -/
namespace Go.Proofs.YtnbhnjokpcdnnaaGreatDoor
section
variable {m : Nat → Option TN} {b : Nat} {t : TN}

theorem new_now (hcl : ClP m) (hb : m b = none) : ∀ (n x r : Nat), nowT m n x = some r → nowT (upd m b t) n x = some r
  | 0, _, _, h => by cases h
  | n + 1, x, r, h => by
    rw [nowT] at h ⊢
    cases hx : m x with
    | none => rw [hx] at h; cases h
    | some u =>
      have hne : x ≠ b := by rintro rfl; rw [hb] at hx; cases hx
      rw [hx] at h
      rw [upd_other hne, hx]
      simp only [Option.bind_some] at h ⊢
      cases hi : u.is with
      | none => rw [hi] at h; exact h
      | some c => rw [hi] at h; exact new_now hcl hb n c r h

theorem new_rt (hcl : ClP m) (hb : m b = none) {x r : Nat} (h : Rt m x r) : Rt (upd m b t) x r := by
  obtain ⟨n, h⟩ := h
  exact ⟨n, new_now hcl hb n x r h⟩
theorem new_cls (hcl : ClP m) (hb : m b = none) {x y : Nat} (h : cls m x y) : cls (upd m b t) x y := by
  obtain ⟨r, h1, h2⟩ := h
  exact ⟨r, new_rt hcl hb h1, new_rt hcl hb h2⟩

theorem le_sum {f : Nat → Nat} : ∀ (l : List Nat) (s : Nat), s ∈ l → f s ≤ (l.map f).sum
  | [], _, h => by cases h
  | a :: l, s, h => by
    simp only [List.map_cons, List.sum_cons]
    rcases List.mem_cons.1 h with rfl | h
    · omega
    · have := le_sum (f := f) l s h
      omega

/-- The store is sound with a new node, too. -/
theorem new_inv (hI : Inv m) (hb : m b = none) (hi : t.is = none) (hs : ∀ s ∈ t.subs, ∃ u, m s = some u) (ha : t.subs.length = arity t.k) : Inv (upd m b t) := by
  have up : ∀ y, (∃ u, m y = some u) → ∃ u, upd m b t y = some u := by
    rintro y ⟨u, hu⟩
    have hne : y ≠ b := by rintro rfl; rw [hb] at hu; cases hu
    exact ⟨u, by rw [upd_other hne]; exact hu⟩
  have old : ∀ {x u}, upd m b t x = some u → x ≠ b → m x = some u := fun h e => by rw [upd_other e] at h; exact h
  refine ⟨fun x u hx => ?_, fun x u hx => ?_, ?_, fun x u c v hx hic hv hk => ?_⟩
  · by_cases e : x = b
    · subst e
      rw [upd_same] at hx
      injection hx with hx
      subst hx
      exact ⟨fun s h => up s (hs s h), fun c hc => by rw [hi] at hc; cases hc⟩
    · have hx := old hx e
      exact ⟨fun s h => up s ((hI.cl x u hx).1 s h), fun c hc => up c ((hI.cl x u hx).2 c hc)⟩
  · by_cases e : x = b
    · subst e
      rw [upd_same] at hx
      injection hx with hx
      subst hx
      exact ha
    · exact hI.ar x u (old hx e)
  · obtain ⟨rho, lam, K, hK, hr⟩ := hI.rk
    refine ⟨fun y => if y = b then (t.subs.map rho).sum + 1 else rho y, lam, K, hK, fun x u hx => ?_⟩
    by_cases e : x = b
    · subst e
      rw [upd_same] at hx
      injection hx with hx
      subst hx
      refine ⟨(fun c hc => by rw [hi] at hc; cases hc), fun _ s h => ?_⟩
      obtain ⟨v, hv⟩ := hs s h
      have hne : s ≠ x := by rintro rfl; rw [hb] at hv; cases hv
      have := le_sum (f := rho) t.subs s h
      show (if s = x then _ else _) < (if x = x then _ else _)
      rw [if_neg hne, if_pos rfl]
      omega
    · have hx := old hx e
      refine ⟨fun c hc => ?_, fun hn s h => ?_⟩
      · obtain ⟨v, hv⟩ := (hI.cl x u hx).2 c hc
        have hne : c ≠ b := by rintro rfl; rw [hb] at hv; cases hv
        show lam c < lam x ∧ (if c = b then _ else _) = (if x = b then _ else _)
        rw [if_neg hne, if_neg e]
        exact (hr x u hx).1 c hc
      · obtain ⟨v, hv⟩ := (hI.cl x u hx).1 s h
        have hne : s ≠ b := by rintro rfl; rw [hb] at hv; cases hv
        show (if s = b then _ else _) < (if x = b then _ else _)
        rw [if_neg hne, if_neg e]
        exact (hr x u hx).2 hn s h
  · by_cases e : x = b
    · subst e
      rw [upd_same] at hx
      injection hx with hx
      subst hx
      rw [hi] at hic
      cases hic
    · have hx := old hx e
      obtain ⟨v0, hv0⟩ := (hI.cl x u hx).2 c hic
      have hne : c ≠ b := by rintro rfl; rw [hb] at hv0; cases hv0
      have hv := old hv hne
      obtain ⟨g1, g2⟩ := hI.cg x u c v hx hic hv hk
      exact ⟨g1, fun i s s' h1 h2 => new_cls hI.cl hb (g2 i s s' h1 h2)⟩

theorem cnt_more {N : Nat} (hN : ∀ x t, m x = some t → x < N) : ∀ k, cnt m (N + k) = cnt m N
  | 0 => rfl
  | k + 1 => by
    rw [← Nat.add_assoc]
    simp only [cnt]
    rw [cnt_more hN k]
    cases h : m (N + k) with
    | none => rfl
    | some u => have := hN _ _ h; omega

theorem cnt_new (hb : m b = none) (hi : t.is = none) : ∀ N, b < N → cnt (upd m b t) N = cnt m N + 1 := by
  have h0 : ∀ N, N ≤ b → cnt (upd m b t) N = cnt m N := by
    intro N
    induction N with
    | zero => intro _; rfl
    | succ n ih =>
      intro hn
      simp only [cnt]
      rw [ih (by omega), upd_other (by omega)]
  intro N
  induction N with
  | zero => intro h; omega
  | succ n ih =>
    intro hn
    simp only [cnt]
    by_cases e : n = b
    · subst e
      rw [h0 n (Nat.le_refl _), upd_same, hb]
      simp [hi]
    · rw [upd_other e]
      have := ih (by omega)
      omega
end
end Go.Proofs.YtnbhnjokpcdnnaaGreatDoor
