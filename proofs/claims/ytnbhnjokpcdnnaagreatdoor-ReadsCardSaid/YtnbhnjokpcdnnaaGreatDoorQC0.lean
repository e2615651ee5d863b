import Derived.Test.YtnbhnjokpcdnnaaGreatDoorQA5
import Derived.Test.YtnbhnjokpcdnnaaGreatDoorQB3
import Derived.Test.YtnbhnjokpcdnnaaGreatDoorQB9
import Derived.Deep.RegionLaw
set_option linter.unusedSimpArgs false
set_option linter.unusedVariables false

namespace Go.Proofs.YtnbhnjokpcdnnaaGreatDoor
open Go.RowKit

/-- A row of texts that is read. -/
def StrRow (w : World) (v : Value) (l : List (List UInt8)) : Prop :=
  ∃ (a : Option Addr) (c : Nat), v = .slice a l.length c ∧ ∀ (j : Nat) (x : List UInt8), l[j]? = some x → ∃ g off, a = some ⟨g, off, none⟩ ∧ g < w.heap.size ∧ w.cell? ⟨g, off + j, none⟩ = some (.string (bs x))

def strs (l : List (List UInt8)) : List Value := l.map fun x => .string (bs x)

theorem StrRow.fr {w w' : World} {v : Value} {l : List (List UInt8)} (h : StrRow w v l) (hF : Fr (fun _ => False) w w') : StrRow w' v l := by
  obtain ⟨a, c, h1, h2⟩ := h
  refine ⟨a, c, h1, fun j x hx => ?_⟩
  obtain ⟨g, off, h3, h4, h5⟩ := h2 j x hx
  exact ⟨g, off, h3, Nat.lt_of_lt_of_le h4 hF.size, (World.cell?_of_block (hF.block g h4 id)).trans h5⟩

theorem StrRow.nil (w : World) (a : Option Addr) (c : Nat) : StrRow w (.slice a 0 c) [] := ⟨a, c, rfl, fun j x h => by simp at h⟩

theorem StrRow.own {w : World} {base : Nat} {e : TypeId} {v : Value} {l : List (List UInt8)} (h : w.ownsRow base e 1 v l.length (strs l)) : StrRow w v l := by
  rcases h.2 with ⟨rfl, h0⟩ | ⟨g, cap, cur, rfl, hg⟩
  · exact ⟨none, 0, by rw [h0], fun j x hx => by rw [List.eq_nil_of_length_eq_zero h0] at hx; simp at hx⟩
  · refine ⟨some ⟨g, 0, none⟩, cap, rfl, fun j x hx => ⟨g, 0, rfl, (h.lt g rfl).2, ?_⟩⟩
    rw [Nat.zero_add, World.ownsRow.cellAt h j (by have := (List.getElem?_eq_some_iff.1 hx).1; omega)]
    simp [strs, hx]

set_option maxHeartbeats 1600000 in
set_option maxRecDepth 100000 in
theorem has_ref {w : World} {v : Value} {l : List (List UInt8)} (h : StrRow w v l) (hn : l.length ≤ 2000) (x : List UInt8) :
    Calls Tryz.prog 21 #[v, .string (bs x)] w fun e w' => e = .returned (.bool (l.contains x)) ∧ w' = w := by
  obtain ⟨a, c, rfl, hrow⟩ := h
  go_enter Tryz.func21, Tryz.ntmps21
  go_wp2_with fail
  go_loopg [5] l.length (fun m i wr => ∃ k : Nat, i = .int .i64 k ∧ k ≤ l.length ∧ m = l.length - k ∧ (∀ (j : Nat) y, j < k → l[j]? = some y → y ≠ x) ∧ wr = w)
  case atStart => exact ⟨0, rfl, Nat.zero_le _, rfl, fun j y hj => by omega, rfl⟩
  case round =>
    obtain ⟨k, rfl, hk, hm, hno, rfl⟩ := hrel
    have HM : Hid (gk = l.length - k) := hm
    have HNO : Hid (∀ (j : Nat) y, j < k → l[j]? = some y → y ≠ x) := hno
    clear hm hno
    by_cases hlt : k < l.length
    · obtain ⟨g, off, rfl, hg, hc⟩ := hrow k l[k] (by simp [hlt])
      clear hrow
      by_cases he : l[k] = x
      · have hbe : (l[k] == x) = true := by simpa using he
        have HR : Hid (l.contains x = true) := by
          show _ = _
          rw [List.contains_iff_mem, ← he]
          exact List.getElem_mem _
        clear HNO he
        generalize l[k] = nk at *
        go_wp2_with fail
        go_ret
        rw [HR.out]
        exact ⟨rfl, rfl⟩
      · have hbe : (l[k] == x) = false := by simpa using he
        have HN2 : Hid (∀ (j : Nat) y, j < k + 1 → l[j]? = some y → y ≠ x) := fun j y hj hy => by
          by_cases e : j = k
          · subst e
            rw [List.getElem?_eq_getElem hlt] at hy
            injection hy with hy
            rw [← hy]
            exact he
          · exact HNO.out j y (by omega) hy
        clear HNO he
        generalize l[k] = nk at *
        go_wp2_with fail
        go_roundg (l.length - (k + 1))
        case measure => rw [HM.out]; omega
        case rel => exact ⟨k + 1, by go_num, by omega, rfl, HN2.out, rfl⟩
    · obtain rfl : k = l.length := by omega
      have HR : Hid (l.contains x = false) := by
        show _ = _
        cases hc : l.contains x with
        | false => rfl
        | true =>
          rw [List.contains_iff_mem] at hc
          obtain ⟨j, hj, hx⟩ := List.getElem_of_mem hc
          exact (HNO.out j l[j] hj (by simp [hj]) hx).elim
      go_wp2_with fail
      go_ret
      rw [HR.out]
      exact ⟨rfl, rfl⟩
end Go.Proofs.YtnbhnjokpcdnnaaGreatDoor

namespace Go.Proofs.YtnbhnjokpcdnnaaGreatDoor
open Go.RowKit

/-- Every node has a label of texts and a number. -/
def Sh : Nat → Code → Prop
  | 0, _ => False
  | n + 1, t => ∃ k m nm ow subs pats, t = nd k m nm ow subs pats ∧ (∀ a ∈ subs, Sh n a) ∧ (∀ q ∈ pats, Sh n q) ∧ (k = [114, 101, 99] → subs ≠ [])

theorem Sh.pos {n : Nat} {t : Code} (h : Sh n t) : 0 < wt t := by
  cases n with
  | zero => exact h.elim
  | succ n =>
    obtain ⟨k, m, nm, ow, subs, pats, rfl, -, -⟩ := h
    rw [wt_nd]
    omega

theorem Nds.get {w : World} {X : Nat → Prop} : ∀ {l : List Code} {vs : List Value}, Nds w X l vs → ∀ {k : Nat} (hk : k < l.length), ∃ v, vs[k]? = some v ∧ Nd w X l[k] v
  | a :: l, _, ⟨v, vs', h1, h2, h3⟩, 0, _ => ⟨v, by rw [h1]; rfl, h2⟩
  | a :: l, _, ⟨v, vs', h1, h2, h3⟩, k + 1, hk => by
    subst h1
    obtain ⟨u, h4, h5⟩ := Nds.get (l := l) h3 (k := k) (by simpa using hk)
    exact ⟨u, by simpa using h4, by simpa using h5⟩

/-- A node in memory: its cells. -/
theorem Nd.cells {w : World} {X : Nat → Prop} {k : List UInt8} {n : Int} {nm ow : List UInt8} {subs pats : List Code} {b : Nat} (h : Nd w X (nd k n nm ow subs pats) (.pointer (some ⟨b, 0, none⟩))) :
    w.cell? ⟨b, 0, none⟩ = some (.string (bs k)) ∧ w.cell? ⟨b, 2, none⟩ = some (.string (bs nm)) ∧ w.cell? ⟨b, 3, none⟩ = some (.string (bs ow)) := by
  obtain ⟨b', vs, vp, cs, cp, h1, h2, h3, _⟩ := h.open
  cases h1
  refine ⟨?_, ?_, ?_⟩ <;> simp [World.cell?, h3]

/-- A part of a node. -/
theorem Nd.sub {w : World} {X : Nat → Prop} {k : List UInt8} {n : Int} {nm ow : List UInt8} {subs pats : List Code} {b : Nat} (h : Nd w X (nd k n nm ow subs pats) (.pointer (some ⟨b, 0, none⟩))) {i : Nat} (hi : i < subs.length) :
    ∃ g c v, b < w.heap.size ∧ w.cell? ⟨b, 4, none⟩ = some (.slice (some ⟨g, 0, none⟩) subs.length c) ∧ g < w.heap.size ∧ w.cell? ⟨g, i, none⟩ = some v ∧ Nd w X subs[i] v := by
  obtain ⟨vs, vp, cs, cp, hbs, k4, k5, hrow, hrX, hds, hcl, -⟩ := h.rows
  obtain ⟨g, gc, rfl, hgl, -⟩ := row_form hrow (by omega)
  obtain ⟨v, h1, h2⟩ := hds.get hi
  exact ⟨g, gc, v, hbs, k4, hgl, by rw [World.ownsRow.cellAt hrow i (by omega)]; exact h1, h2⟩

theorem Nd.pat {w : World} {X : Nat → Prop} {k : List UInt8} {n : Int} {nm ow : List UInt8} {subs pats : List Code} {b : Nat} (h : Nd w X (nd k n nm ow subs pats) (.pointer (some ⟨b, 0, none⟩))) {i : Nat} (hi : i < pats.length) :
    ∃ g c v, b < w.heap.size ∧ w.cell? ⟨b, 5, none⟩ = some (.slice (some ⟨g, 0, none⟩) pats.length c) ∧ g < w.heap.size ∧ w.cell? ⟨g, i, none⟩ = some v ∧ Nd w X pats[i] v := by
  obtain ⟨vs, vp, cs, cp, hbs, k4, k5, -, -, -, -, hrow, hrX, hds, hcl⟩ := h.rows
  obtain ⟨g, gc, rfl, hgl, -⟩ := row_form hrow (by omega)
  obtain ⟨v, h1, h2⟩ := hds.get hi
  exact ⟨g, gc, v, hbs, k5, hgl, by rw [World.ownsRow.cellAt hrow i (by omega)]; exact h1, h2⟩

/-- How many parts a node has. -/
theorem Nd.lens {w : World} {X : Nat → Prop} {k : List UInt8} {n : Int} {nm ow : List UInt8} {subs pats : List Code} {b : Nat} (h : Nd w X (nd k n nm ow subs pats) (.pointer (some ⟨b, 0, none⟩))) :
    ∃ a c a' c', b < w.heap.size ∧ w.cell? ⟨b, 4, none⟩ = some (.slice a subs.length c) ∧ w.cell? ⟨b, 5, none⟩ = some (.slice a' pats.length c') := by
  obtain ⟨vs, vp, cs, cp, hbs, k4, k5, hrow, hrX, hds, hcl, hrowp, -⟩ := h.rows
  obtain ⟨a, c, h1⟩ := ownsRow_len hrow
  obtain ⟨a', c', h2⟩ := ownsRow_len hrowp
  exact ⟨a, c, a', c', hbs, by rw [k4, h1], by rw [k5, h2]⟩

theorem drop_cons {l : List Code} {k : Nat} (hk : k < l.length) : l.drop k = l[k] :: l.drop (k + 1) := List.drop_eq_getElem_cons hk

/-- What is wanted of 'named' at the parts. -/
def NmOk (n m : Nat) : Prop := ∀ ⦃q : Code⦄ ⦃inn out : List (List UInt8)⦄ ⦃ok : Bool⦄, nR n q inn = some (out, ok) → Sh m q → ∀ ⦃w : World⦄ ⦃p v : Value⦄ ⦃base : Nat⦄, Nd w (fun b => base ≤ b) q p → w.ownsRow base 9 1 v inn.length (strs inn) → base ≤ w.heap.size → inn.length + wt q ≤ 1000 →
  out.length ≤ inn.length + wt q ∧ Calls Tryz.prog 23 #[p, v] w fun e w' => ∃ v', e = .returned (.tuple #[v', .bool ok]) ∧ w'.ownsRow base 9 1 v' out.length (strs out) ∧ Fr (fun b => base ≤ b) w w'

theorem nAll_len {n m : Nat} (IH : ∀ q inn out ok, nR n q inn = some (out, ok) → Sh m q → out.length ≤ inn.length + wt q) : ∀ (l : List Code) (inn out : List (List UInt8)) (ok : Bool), nAll (nR n) l inn = some (out, ok) → (∀ q ∈ l, Sh m q) → out.length ≤ inn.length + wts l
  | [], inn, out, ok, h, _ => by simp [nAll] at h; rw [← h.1]; simp [wts]
  | a :: l, inn, out, ok, h, hs => by
    obtain ⟨x, h1, h⟩ := bindS h
    obtain ⟨y, h2, h⟩ := bindS h
    injection h with h
    have e1 := IH a inn x.1 x.2 h1 (hs a (by simp))
    have e2 := nAll_len IH l x.1 y.1 y.2 h2 (fun q hq => hs q (by simp [hq]))
    rw [wts_cons, ← (Prod.mk.inj h).1]
    omega

theorem nR_len : ∀ (n m : Nat) (q : Code) (inn out : List (List UInt8)) (ok : Bool), nR n q inn = some (out, ok) → Sh m q → out.length ≤ inn.length + wt q
  | 0, _, _, _, _, _, h, _ => by cases h
  | n + 1, 0, _, _, _, _, _, h => h.elim
  | n + 1, m + 1, q, inn, out, ok, h, hs => by
    obtain ⟨k, z, nm, ow, subs, pats, rfl, hs1, hs2⟩ := hs
    rw [nR] at h
    rw [wt_nd]
    split at h
    · simp at h
      rw [← h.1]
      simp
      omega
    · rw [subsOf_nd] at h
      have := nAll_len (fun q inn out ok => nR_len n m q inn out ok) subs inn out ok h hs1
      omega

set_option maxHeartbeats 3200000 in
set_option maxRecDepth 100000 in
theorem named_ref : ∀ (n m : Nat), NmOk n m := by
  intro n
  induction n with
  | zero => intro m q inn out ok h; cases h
  | succ n ih =>
    intro m q inn out ok h hs w p v base hN hv hbase hl
    refine ⟨nR_len _ _ _ _ _ _ h hs, ?_⟩
    cases m with
    | zero => exact hs.elim
    | succ m =>
      have IH := ih m
      clear ih
      obtain ⟨k, z, nm, ow, subs, pats, rfl, hs1, -⟩ := hs
      rw [wt_nd] at hl
      rw [nR, kindOf_nd, nmOf_nd, subsOf_nd] at h
      obtain ⟨b, rfl, hb, hblt⟩ := hN.ptr
      obtain ⟨c0, c2, -⟩ := hN.cells
      by_cases hk : k = [118, 97, 114]
      · subst hk
        rw [if_pos rfl] at h
        injection h with h
        obtain ⟨rfl, rfl⟩ := Prod.mk.inj h
        have hS := StrRow.own hv
        obtain ⟨va, vc, rfl⟩ := ownsRow_len hv
        obtain ⟨old, hold⟩ : ∃ old, old = inn.contains nm := ⟨_, rfl⟩
        rw [← hold]
        have HOLD : Hid (old = inn.contains nm) := hold
        clear hold
        go_enter Tryz.func23, Tryz.ntmps23
        go_wp2_with fail
        refine (has_ref hS (by omega) nm).mono ?_
        rintro e w1 ⟨rfl, rfl⟩
        rw [← HOLD.out]
        clear hS
        go_wp2_with (at_builtin; refine wpList_app slStr rfl (.tmp 22) (.tmp 27) rfl base inn.length (strs inn) _ rfl (hv.alloc _) ⟨w1.heap.size, 0, none⟩ 1 1 [.string (bs nm)] rfl rfl ?c1 ?c2 (by decide) ?b1 ?b2 ?b3 ?grow)
        case c1 => intro j u hj; match j, hj with | 0, hj => simp at hj; subst hj; simp [Addr.add]
        case c2 => intro u hu; simp at hu; subst hu; rfl
        case b1 => unfold maxLen; omega
        case b2 => omega
        case b3 => simp; omega
        case grow =>
          intro v' w3 hown hgrow hvv g' cap hfm
          subst hfm
          have HO : Hid (w3.ownsRow base 9 1 (.slice (some ⟨g', 0, none⟩) (inn.length + 1) cap) (inn ++ [nm]).length (strs (inn ++ [nm]))) := by
            show w3.ownsRow _ _ _ _ _ _
            have : (inn ++ [nm]).length = inn.length + 1 := by simp
            rw [this]
            simpa [strs] using hown
          have HF : Hid (Fr (fun b => base ≤ b) w1 w3) := ((Fr.refl _ w1).alloc _).grown hgrow (fun j hj => .inl (hv.lt j hj).1)
          clear hown hgrow hvv hv
          cases old
          all_goals
            go_wp2_with fail
            go_ret2
            exact ⟨_, rfl, HO.out, HF.out⟩
      · rw [if_neg hk] at h
        have hkb : (k == [118, 97, 114]) = false := by simpa using hk
        have HN : Hid (Nd w (fun b => base ≤ b) (nd k z nm ow subs pats) (.pointer (some ⟨b, 0, none⟩))) := hN
        have HS : Hid (∀ a ∈ subs, Sh m a) := hs1
        have HE : Hid (nAll (nR n) subs inn = some (out, ok)) := h
        have hsl : subs.length ≤ 1000 := by have := len_wts (fun a ha => Sh.pos (hs1 a ha)); omega
        have HV : Hid (w.ownsRow base 9 1 v inn.length (strs inn)) := hv
        obtain ⟨va, vc, rfl⟩ := ownsRow_len hv
        clear h hs1 hN hv hk c2
        go_enter Tryz.func23, Tryz.ntmps23
        go_wp2_with fail
        go_loopg [1, 7, 8] subs.length (fun mm iv okv kv wr => ∃ (j : Nat) (inn' : List (List UInt8)) (o r : Bool), kv = .int .i64 j ∧ j ≤ subs.length ∧ mm = subs.length - j ∧ okv = .bool o ∧ nAll (nR n) (subs.drop j) inn' = some (out, r) ∧ ok = (o && r) ∧ wr.ownsRow base 9 1 iv inn'.length (strs inn') ∧ inn'.length + wts (subs.drop j) ≤ 1000 ∧ Fr (fun b => base ≤ b) w wr)
        case atStart => exact ⟨0, inn, true, ok, rfl, Nat.zero_le _, rfl, rfl, HE.out, rfl, HV.out, by simp only [List.drop_zero]; omega, Fr.refl _ _⟩
        case round =>
          obtain ⟨j, inn', o, r, rfl, hj, hm, rfl, hall, hok, hv', hl', hF⟩ := hrel
          have HM : Hid (gk = subs.length - j) := hm
          have HOK : Hid (ok = (o && r)) := hok
          have HV' : Hid (wr.ownsRow base 9 1 _ inn'.length (strs inn')) := hv'
          have hN' := HN.out.fr hF
          have HF : Hid (Fr (fun b => base ≤ b) w wr) := hF
          have hbw : base ≤ wr.heap.size := Nat.le_trans hbase hF.size
          clear hm hok hF
          by_cases hlt : j < subs.length
          · obtain ⟨g, gc, pv, hbl, k4, hgl, hcell, hNs⟩ := hN'.sub hlt
            rw [drop_cons hlt] at hall hl'
            rw [wts_cons] at hl'
            obtain ⟨x, hx1, hall⟩ := bindS hall
            obtain ⟨y, hy1, hall⟩ := bindS hall
            injection hall with hall
            obtain ⟨hy2, hy3⟩ := Prod.mk.inj hall
            obtain ⟨hxl, hcall⟩ := IH (ok := x.2) (out := x.1) hx1 (HS.out _ (List.getElem_mem _)) hNs hv' hbw (by omega)
            have HY : Hid (nAll (nR n) (subs.drop (j + 1)) x.1 = some (out, y.2)) := by rw [← hy2]; exact hy1
            have HR : Hid (r = (x.2 && y.2)) := hy3.symm
            have hl2 : x.1.length + wts (subs.drop (j + 1)) ≤ 1000 := by omega
            clear hall hy1 hy2 hy3 hx1 hv'
            have HC : Hid (Calls Tryz.prog 23 #[pv, _] wr _) := hcall
            clear hcall
            go_wp2_with fail
            refine HC.out.mono ?_
            rintro e w2 ⟨v2, rfl, hv2, hF2⟩
            have HV2 : Hid (w2.ownsRow base 9 1 v2 x.1.length (strs x.1)) := hv2
            have HF2 : Hid (Fr (fun b => base ≤ b) w w2) := HF.out.trans hF2 (fun _ h => .inl h)
            obtain ⟨va2, vc2, rfl⟩ := ownsRow_len hv2
            obtain ⟨xo, hxo⟩ : ∃ xo, xo = x.2 := ⟨_, rfl⟩
            rw [← hxo] at HR ⊢
            have HOK2 : Hid (ok = ((o && xo) && y.2)) := by
              show _ = _
              rw [HOK.out, HR.out]
              cases o <;> rfl
            clear hv2 hF2 HC HOK HR hxo k4 hcell hNs hN'
            cases o
            all_goals
              go_wp2_with fail
              go_roundg (subs.length - (j + 1))
              case measure => rw [HM.out]; omega
              case rel => exact ⟨j + 1, x.1, _, y.2, by go_num, by omega, rfl, rfl, HY.out, HOK2.out, HV2.out, hl2, HF2.out⟩
          · obtain rfl : j = subs.length := by omega
            obtain ⟨a4, c4, a5, c5, hbl, k4, -⟩ := hN'.lens
            rw [List.drop_length, nAll] at hall
            injection hall with hall
            obtain ⟨rfl, rfl⟩ := Prod.mk.inj hall
            have HR : Hid (ok = o) := by
              show _ = _
              rw [HOK.out]
              cases o <;> rfl
            obtain ⟨va2, vc2, rfl⟩ := ownsRow_len hv'
            clear HOK hv' hN'
            go_wp2_with fail
            go_ret2
            rw [HR.out]
            exact ⟨_, rfl, HV'.out, HF.out⟩
end Go.Proofs.YtnbhnjokpcdnnaaGreatDoor

namespace Go.Proofs.YtnbhnjokpcdnnaaGreatDoor
open Go.RowKit

section
variable {P : Program} {t e : TypeId} {z : Value} {size bytes : Nat} {w : World} {base : Nat} {v : Value}

/-- Nothing is appended. -/
theorem run_app0 (T : SlT P t e z size bytes) (ty : TypeId) (b : Option Addr) (n cap : Nat) (hc : n ≤ cap) (c : Nat) :
    (Builtin.append_ #[t, t] ty #[.slice b n cap, .slice none 0 c]).run P w = .ok (.slice b n cap) w := by
  obtain ⟨i, hi, hz, hsize, hby⟩ := T.hi
  cases b with
  | none => simp [Builtin.append_, run_underlying T.ht, sizeOf, typeInfo, hi, Builtin.lenOf, hc, Builtin.firstCells]
  | some a => simp [Builtin.append_, run_underlying T.ht, sizeOf, typeInfo, hi, Builtin.lenOf, hc, Builtin.firstCells, storeCells]

/-- Texts are appended to a row of one's own. -/
theorem run_appS (T : SlT P t e z 1 bytes) (ty : TypeId) {k l : List (List UInt8)} (hown : w.ownsRow base e 1 v k.length (strs k)) {x : Value} (hx : StrRow w x l) (h63 : k.length + l.length ≤ maxLen) (hbytes : (k.length + l.length) * bytes ≤ 140737488355328) (hbase : base ≤ w.heap.size) :
    ∃ v' w', (Builtin.append_ #[t, t] ty #[v, x]).run P w = .ok v' w' ∧ w'.ownsRow base e 1 v' (k ++ l).length (strs (k ++ l)) ∧ w.grownBy w' v.ownBlock := by
  obtain ⟨i, hi, hz, hsize, hby⟩ := T.hi
  obtain ⟨a, c, rfl, hrow⟩ := hx
  have hst : strs (k ++ l) = strs k ++ strs l := by simp [strs]
  cases a with
  | none =>
    have hl : l = [] := by
      cases l with
      | nil => rfl
      | cons y l =>
        obtain ⟨g, off, h, _⟩ := hrow 0 y rfl
        cases h
    subst hl
    have hv : ∃ b cap, v = .slice b k.length cap ∧ k.length ≤ cap := by
      rcases hown.2 with ⟨rfl, h0⟩ | ⟨g, cap, cur, rfl, _, _, hnc, _⟩
      · exact ⟨none, 0, by rw [h0], by omega⟩
      · exact ⟨_, cap, rfl, hnc⟩
    obtain ⟨b, cap, rfl, hcap⟩ := hv
    refine ⟨_, w, run_app0 T ty b k.length cap hcap c, by simpa using hown, ⟨rfl, rfl, rfl, Nat.le_refl _, fun _ _ _ => rfl⟩⟩
  | some ad =>
    have hnews : ∀ j u, (strs l)[j]? = some u → w.cell? (ad.add j) = some u := by
      intro j u hu
      simp only [strs, List.getElem?_map, Option.map_eq_some_iff] at hu
      obtain ⟨y, hy, rfl⟩ := hu
      obtain ⟨g, off, h1, h2, h3⟩ := hrow j y hy
      injection h1 with h1
      subst h1
      rw [Addr.add_lit]; exact h3
    obtain ⟨v', w', hr, h2, h3, h4⟩ := run_append_own (P := P) w base t ty e i z 1 bytes T.ht hi hz hsize hby T.hzs (by decide) v k.length (strs k) hown ad l.length c (strs l) (by simp [strs]) hnews (by intro u hu; simp only [strs, List.mem_map] at hu; obtain ⟨y, _, rfl⟩ := hu; rfl) h63 hbytes hbase
    exact ⟨v', w', hr, by rw [hst, List.length_append]; exact h2, h3⟩

theorem wpList_appS {ops : Array Oper} {rest : List Oper} {o : Oper} {a : Act} {Q : Exit → Act → World → Prop} (T : SlT P t e z 1 bytes) (hgd : o.guard = none) (s x : Operand)
    (ho : o.op = .call { callee := .builtin .append, args := #[s, x], argTypes := #[t, t] }) (base : Nat) (k l : List (List UInt8)) (v : Value) (hs : a.eval s = v) (hown : w.ownsRow base e 1 v k.length (strs k))
    (vx : Value) (hx : a.eval x = vx) (hrow : StrRow w vx l) (h63 : k.length + l.length ≤ maxLen) (hbytes : (k.length + l.length) * bytes ≤ 140737488355328) (hbase : base ≤ w.heap.size)
    (h : ∀ v' w', w'.ownsRow base e 1 v' (k ++ l).length (strs (k ++ l)) → w.grownBy w' v.ownBlock → wpList P ops Q rest (a.put o.dst v') w') :
    wpList P ops Q (o :: rest) a w := by
  refine wpList_plain hgd fun K hK => ?_
  obtain ⟨v', w', hr, h2, h3⟩ := run_appS (w := w) T o.type hown hrow h63 hbytes hbase
  unfold Oper.wp execOp
  simp only [ho, resolve, invoke, builtin, Sem.run_bind, Sem.run_pure, Result.andThen_ok, List.map_toArray, List.map_cons, List.map_nil, hs, hx, hr]
  exact hK _ _ (h v' w' h2 h3)

theorem step_appS {ops : Array Oper} {o : Oper} {a : Act} {K : Act → World → Prop} {Q : Exit → Act → World → Prop} {X : Prop} (T : SlT P t e z 1 bytes) (hgd : o.guard = none) (s x : Operand)
    (ho : o.op = .call { callee := .builtin .append, args := #[s, x], argTypes := #[t, t] }) (base : Nat) (k l : List (List UInt8)) (v : Value) (hs : a.eval s = v) (hown : w.ownsRow base e 1 v k.length (strs k))
    (vx : Value) (hx : a.eval x = vx) (hrow : StrRow w vx l) (h63 : k.length + l.length ≤ maxLen) (hbytes : (k.length + l.length) * bytes ≤ 140737488355328) (hbase : base ≤ w.heap.size)
    (h : ∀ v' w', w'.ownsRow base e 1 v' (k ++ l).length (strs (k ++ l)) → w.grownBy w' v.ownBlock → K (a.put o.dst v') w') :
    if Region.wanted o (yielded ops a.tmps) = true then Oper.wp P o a w K Q else X := by
  have hw : Region.wanted o (yielded ops a.tmps) = true := by simp [Region.wanted, hgd]
  rw [if_pos hw]
  obtain ⟨v', w', hr, h2, h3⟩ := run_appS (w := w) T o.type hown hrow h63 hbytes hbase
  unfold Oper.wp execOp
  simp only [ho, resolve, invoke, builtin, Sem.run_bind, Sem.run_pure, Result.andThen_ok, List.map_toArray, List.map_cons, List.map_nil, hs, hx, hr]
  exact h v' w' h2 h3

/-- A call of a Go function, as one step of a region that draws its order. -/
theorem step_enter {ops : Array Oper} {o : Oper} {a : Act} {K : Act → World → Prop} {Q : Exit → Act → World → Prop} {X : Prop} (hgd : o.guard = none) (f : FuncId) (args : Array Value)
    (hrun : (execOp a.eval o).run P w = .ok (.enter f args) w) {R : Ending → World → Prop} (hc : Calls P f args w R) (h : ∀ e w', R e w' → ∃ v, e = .returned v ∧ K (a.put o.dst v) w') :
    if Region.wanted o (yielded ops a.tmps) = true then Oper.wp P o a w K Q else X := by
  have hw : Region.wanted o (yielded ops a.tmps) = true := by simp [Region.wanted, hgd]
  rw [if_pos hw]
  unfold Oper.wp
  rw [hrun]
  refine hc.mono ?_
  intro e w' hR
  obtain ⟨v, rfl, hK⟩ := h e w' hR
  exact hK
end

/-- What is wanted of 'Bound'. -/
def BdOk (n m : Nat) : Prop := ∀ ⦃t : Code⦄ ⦃nms : List (List UInt8)⦄ ⦃b : Bool⦄, bR n t nms = some b → Sh m t → ∀ ⦃w : World⦄ ⦃p v : Value⦄, Nd w (fun _ => False) t p → StrRow w v nms → nms.length + wt t ≤ 1000 →
  Calls Tryz.prog 12 #[p, v] w fun e w' => e = .returned (.bool b) ∧ Fr (fun _ => False) w w'

set_option maxHeartbeats 3200000 in
set_option maxRecDepth 100000 in
theorem allBound_ref {n m : Nat} (IH : BdOk n m) {l : List Code} {nms : List (List UInt8)} {b : Bool} (h : bAll (bR n) l nms = some b) (hs : ∀ a ∈ l, Sh m a) {w : World} {vs v : Value} {cs : List Value} (hrow : w.ownsRow 0 26 1 vs l.length cs) (hN : Nds w (fun _ => False) l cs) (hv : StrRow w v nms) (hl : ∀ a ∈ l, nms.length + wt a ≤ 1000) (hl2 : l.length ≤ 1000) :
    Calls Tryz.prog 22 #[vs, v] w fun e w' => e = .returned (.bool b) ∧ Fr (fun _ => False) w w' := by
  have HE : Hid (bAll (bR n) l nms = some b) := h
  have HROW : Hid (w.ownsRow 0 26 1 vs l.length cs) := hrow
  have HN : Hid (Nds w (fun _ => False) l cs) := hN
  have HV : Hid (StrRow w v nms) := hv
  have HS : Hid (∀ a ∈ l, Sh m a) := hs
  have HL : Hid (∀ a ∈ l, nms.length + wt a ≤ 1000) := hl
  obtain ⟨va, vc, rfl⟩ := ownsRow_len hrow
  clear h hN hv hs hl hrow
  go_enter Tryz.func22, Tryz.ntmps22
  go_wp2_with fail
  go_loopg [5] l.length (fun mm kv wr => ∃ j : Nat, kv = .int .i64 j ∧ j ≤ l.length ∧ mm = l.length - j ∧ bAll (bR n) (l.drop j) nms = some b ∧ Fr (fun _ => False) w wr)
  case atStart => exact ⟨0, rfl, Nat.zero_le _, rfl, HE.out, Fr.refl _ _⟩
  case round =>
    obtain ⟨j, rfl, hj, hm, hall, hF⟩ := hrel
    have HM : Hid (gk = l.length - j) := hm
    have HF : Hid (Fr (fun _ => False) w wr) := hF
    clear hm
    by_cases hlt : j < l.length
    · have hrow' := ownsRow_block HROW.out (fun b hb => hF.block b (HROW.out.lt b hb).2 id)
      obtain ⟨g, gc, hfm, hgl, -⟩ := row_form hrow' (by omega)
      cases hfm
      obtain ⟨pv, hp1, hp2⟩ := HN.out.get hlt
      have hcell : wr.cell? ⟨g, j, none⟩ = some pv := by rw [World.ownsRow.cellAt hrow' j (by omega)]; exact hp1
      rw [drop_cons hlt] at hall
      obtain ⟨x, hx1, hall⟩ := bindS hall
      have HC : Hid (∀ w2, Fr (fun _ => False) w w2 → Calls Tryz.prog 12 #[pv, v] w2 fun e w' => e = .returned (.bool x) ∧ Fr (fun _ => False) w2 w') := fun w2 h2 => IH hx1 (HS.out _ (List.getElem_mem _)) (hp2.fr h2) (HV.out.fr h2) (HL.out _ (List.getElem_mem _))
      have HA : Hid ((if x = true then bAll (bR n) (l.drop (j + 1)) nms else some false) = some b) := hall
      clear hall hx1 hp2 hrow' hp1 hF
      go_wp2_with fail
      refine (HC.out _ HF.out).mono ?_
      rintro e w2 ⟨rfl, hF2⟩
      have HF2 : Hid (Fr (fun _ => False) w w2) := HF.out.trans hF2 (fun _ h => .inl h)
      clear hF2 HC hcell
      cases x
      · have HB : Hid (b = false) := by
          have := HA.out
          simp at this
          exact this
        go_wp2_with fail
        go_ret
        rw [HB.out]
        exact ⟨rfl, HF2.out⟩
      · have HB : Hid (bAll (bR n) (l.drop (j + 1)) nms = some b) := by
          have := HA.out
          simp only [if_true] at this
          exact this
        go_wp2_with fail
        go_roundg (l.length - (j + 1))
        case measure => rw [HM.out]; omega
        case rel => exact ⟨j + 1, by go_num, by omega, rfl, HB.out, HF2.out⟩
    · obtain rfl : j = l.length := by omega
      rw [List.drop_length, bAll] at hall
      injection hall with hall
      have HB : Hid (b = true) := hall.symm
      clear hall
      go_wp2_with fail
      go_ret
      rw [HB.out]
      exact ⟨rfl, HF.out⟩
end Go.Proofs.YtnbhnjokpcdnnaaGreatDoor

namespace Go.Proofs.YtnbhnjokpcdnnaaGreatDoor
open Go.RowKit

section
variable {n m : Nat} {k nm ow : List UInt8} {z : Int} {subs pats : List Code} {nms : List (List UInt8)} {b : Bool} {w : World} {p v : Value}

set_option maxHeartbeats 3200000 in
set_option maxRecDepth 100000 in
theorem bound_var (hk : k = [118, 97, 114]) (h : nms.contains nm = b) (hN : Nd w (fun _ => False) (nd k z nm ow subs pats) p) (hv : StrRow w v nms) (hl : nms.length ≤ 1000) :
    Calls Tryz.prog 12 #[p, v] w fun e w' => e = .returned (.bool b) ∧ Fr (fun _ => False) w w' := by
  obtain ⟨bb, rfl, -, hblt⟩ := hN.ptr
  have q0 : (k == [118, 97, 114]) = true := by subst hk; decide
  clear hk
  have HB : Hid (nms.contains nm = b) := h
  have HV : Hid (StrRow w v nms) := hv
  obtain ⟨va, vc, rfl, -⟩ := hv
  clear h
  go_enter Tryz.func12, Tryz.ntmps12
  go_wp2_with (at_builtin; refine wpList_appS slStr rfl (.const (.slice none 0 0)) (.tmp 16) rfl w.heap.size [] nms _ rfl (World.ownsRow_nil _ _ _ _) _ rfl HV.out ?b1 ?b2 ?b3 ?next)
  case b1 => unfold maxLen; simp; omega
  case b2 => simp; omega
  case b3 => exact Nat.le_refl _
  case next =>
    intro v' w1 hown hgrow
    have hF : Fr (fun _ => False) w w1 := (Fr.refl _ w).grown hgrow (fun j hj => by cases hj)
    have hN1 := hN.fr hF
    obtain ⟨c0, c2, -⟩ := hN1.cells
    have hb1 : bb < w1.heap.size := Nat.lt_of_lt_of_le hblt hF.size
    have HV1 : Hid (StrRow w1 _ nms) := HV.out.fr hF
    have HF : Hid (Fr (fun _ => False) w w1) := hF
    clear hown hgrow hF hN1 hN
    go_wp2_with fail
    refine (has_ref HV1.out (by omega) nm).mono ?_
    rintro e w2 ⟨rfl, rfl⟩
    rw [HB.out]
    go_wp2_with fail
    go_ret
    exact ⟨rfl, HF.out⟩

set_option maxHeartbeats 3200000 in
set_option maxRecDepth 100000 in
theorem bound_plain (IH : BdOk n m) (hk : plainK k) (h : bAll (bR n) subs nms = some b) (hs : ∀ a ∈ subs, Sh m a) (hN : Nd w (fun _ => False) (nd k z nm ow subs pats) p) (hv : StrRow w v nms) (hl : nms.length + (1 + wts subs + wts pats) ≤ 1000) :
    Calls Tryz.prog 12 #[p, v] w fun e w' => e = .returned (.bool b) ∧ Fr (fun _ => False) w w' := by
  obtain ⟨bb, rfl, -, hblt⟩ := hN.ptr
  obtain ⟨h1, h2, h3, h4, h5⟩ := hk
  have q0 : (k == [118, 97, 114]) = false := by simpa using h1
  have q1 : (k == [102, 110]) = false := by simpa using fun h => h2 (.inl h)
  have q2 : (k == [100, 101, 102]) = false := by simpa using fun h => h2 (.inr h)
  have q3 : (k == [108, 101, 116]) = false := by simpa using fun h => h3 (.inl h)
  have q4 : (k == [116, 114, 121]) = false := by simpa using fun h => h3 (.inr h)
  have q5 : (k == [114, 101, 99]) = false := by simpa using h4
  have q6 : (k == [109, 97, 116, 99, 104]) = false := by simpa using h5
  clear h1 h2 h3 h4 h5
  have HE : Hid (bAll (bR n) subs nms = some b) := h
  have HS : Hid (∀ a ∈ subs, Sh m a) := hs
  have HV : Hid (StrRow w v nms) := hv
  have hsl : subs.length ≤ 1000 := by have := len_wts (fun a ha => Sh.pos (hs a ha)); omega
  have HL : Hid (∀ a ∈ subs, nms.length + wt a ≤ 1000) := fun a ha => by
    have h1 := one_wts (fun a ha => Sh.pos (hs a ha)) ha
    have h2 : 0 < subs.length := List.length_pos_of_mem ha
    omega
  obtain ⟨va, vc, rfl, -⟩ := hv
  clear h hs
  go_enter Tryz.func12, Tryz.ntmps12
  go_wp2_with (at_builtin; refine wpList_appS slStr rfl (.const (.slice none 0 0)) (.tmp 16) rfl w.heap.size [] nms _ rfl (World.ownsRow_nil _ _ _ _) _ rfl HV.out ?b1 ?b2 ?b3 ?next)
  case b1 => unfold maxLen; simp; omega
  case b2 => simp; omega
  case b3 => exact Nat.le_refl _
  case next =>
    intro v' w1 hown hgrow
    have hF : Fr (fun _ => False) w w1 := (Fr.refl _ w).grown hgrow (fun j hj => by cases hj)
    have hN1 := hN.fr hF
    obtain ⟨c0, -, -⟩ := hN1.cells
    obtain ⟨vs, vp, cs, cp, hbs, k4, -, hrow, -, hds, -⟩ := hN1.rows
    have HV1 : Hid (StrRow w1 _ nms) := HV.out.fr hF
    have HF : Hid (Fr (fun _ => False) w w1) := hF
    have HC : Hid (Calls Tryz.prog 22 #[vs, .slice va nms.length vc] w1 fun e w' => e = .returned (.bool b) ∧ Fr (fun _ => False) w1 w') := allBound_ref IH HE.out HS.out hrow hds HV1.out HL.out hsl
    clear hown hgrow hF hN1 hN hrow hds
    go_wp2_with fail
    refine HC.out.mono ?_
    rintro e w2 ⟨rfl, hF2⟩
    have HF2 : Hid (Fr (fun _ => False) w w2) := HF.out.trans hF2 (fun _ h => .inl h)
    go_wp2_with fail
    go_ret
    exact ⟨rfl, HF2.out⟩

theorem StrRow.one {w : World} {x : List UInt8} {t : TypeId} : StrRow (w.alloc (.cells #[.string (bs x)] t)) (.slice (some ⟨w.heap.size, 0, none⟩) 1 1) [x] := by
  refine ⟨_, _, rfl, fun j y hy => ⟨w.heap.size, 0, rfl, by simp, ?_⟩⟩
  match j, hy with
  | 0, hy => simp at hy; subst hy; simp
  | j + 1, hy => simp at hy

set_option maxHeartbeats 3200000 in
set_option maxRecDepth 100000 in
theorem bound_fn (IH : BdOk n m) (q0 : (k == [118, 97, 114]) = false) (q1 : (k == [102, 110]) = true) {a : Code} (ha : subs[0]? = some a) (h : bR n a (nms ++ [nm]) = some b) (hs : Sh m a) (hN : Nd w (fun _ => False) (nd k z nm ow subs pats) p) (hv : StrRow w v nms) (hl : nms.length + 1 + wt a ≤ 1000) :
    Calls Tryz.prog 12 #[p, v] w fun e w' => e = .returned (.bool b) ∧ Fr (fun _ => False) w w' := by
  obtain ⟨bb, rfl, -, hblt⟩ := hN.ptr
  have hpos : 0 < subs.length := (List.getElem?_eq_some_iff.1 ha).1
  have ha' : subs[0] = a := by rw [List.getElem?_eq_getElem hpos] at ha; injection ha
  have HV : Hid (StrRow w v nms) := hv
  obtain ⟨va, vc, rfl, -⟩ := hv
  obtain ⟨c0, c2, -⟩ := hN.cells
  obtain ⟨g, gc, pv, -, k4, hgl, hcell, hNs⟩ := hN.sub hpos
  rw [ha'] at hNs
  have HC : Hid (∀ w2 v2, Fr (fun _ => False) w w2 → w2.ownsRow w.heap.size 9 1 v2 (nms ++ [nm]).length (strs (nms ++ [nm])) → Calls Tryz.prog 12 #[pv, v2] w2 fun e w' => e = .returned (.bool b) ∧ Fr (fun _ => False) w2 w') := fun w2 v2 h2 h3 => IH h hs (hNs.fr h2) (StrRow.own h3) (by simp; omega)
  clear h hs ha hNs ha' hN
  go_enter Tryz.func12, Tryz.ntmps12
  go_wp2_with (at_builtin; refine wpList_appS slStr rfl (.const (.slice none 0 0)) (.tmp 16) rfl w.heap.size [] nms _ rfl (World.ownsRow_nil _ _ _ _) _ rfl HV.out ?b1 ?b2 ?b3 ?next)
  case next =>
    intro v' w1 hown hgrow
    have hF : Fr (fun _ => False) w w1 := (Fr.refl _ w).grown hgrow (fun j hj => by cases hj)
    have HO : Hid (w1.ownsRow w.heap.size 9 1 v' nms.length (strs nms)) := hown
    have HF : Hid (Fr (fun _ => False) w w1) := hF
    have hw1 : w.heap.size ≤ w1.heap.size := hF.size
    have c01 := (World.cell?_of_block (a := ⟨bb, 0, none⟩) (hF.block bb hblt id)).trans c0
    have c21 := (World.cell?_of_block (a := ⟨bb, 2, none⟩) (hF.block bb hblt id)).trans c2
    have k41 := (World.cell?_of_block (a := ⟨bb, 4, none⟩) (hF.block bb hblt id)).trans k4
    have hcell1 := (World.cell?_of_block (a := ⟨g, 0, none⟩) (hF.block g hgl id)).trans hcell
    have hb1 : bb < w1.heap.size := Nat.lt_of_lt_of_le hblt hw1
    have hg1 : g < w1.heap.size := Nat.lt_of_lt_of_le hgl hw1
    obtain ⟨va1, vc1, rfl⟩ := ownsRow_len (show w1.ownsRow w.heap.size 9 1 v' nms.length (strs nms) from hown)
    clear hown hgrow hF
    go_wp2_with fail
    go_region_law (first
      | (refine step_appS slStr rfl (.tmp 39) (.tmp 44) rfl w.heap.size nms [nm] _ rfl ((HO.out.drew).alloc _) _ rfl StrRow.one (by unfold maxLen; simp; omega) (by simp; omega) (by simp; omega) ?_; rintro v2 w2 hown2 hgrow2; have HO2 : Hid (w2.ownsRow w.heap.size 9 1 v2 (nms ++ [nm]).length (strs (nms ++ [nm]))) := hown2; have HF2 : Hid (Fr (fun _ => False) w w2) := (HF.out.drew.alloc _).grown hgrow2 (fun j hj => .inr (HO.out.lt j hj).1); have k42 := (World.cell?_of_block (a := ⟨bb, 4, none⟩) (HF2.out.block bb hblt id)).trans k4; have hcell2 := (World.cell?_of_block (a := ⟨g, 0, none⟩) (HF2.out.block g hgl id)).trans hcell; have hb2 : bb < w2.heap.size := Nat.lt_of_lt_of_le hblt HF2.out.size; have hg2 : g < w2.heap.size := Nat.lt_of_lt_of_le hgl HF2.out.size; clear hown2 hgrow2)
      | (rw [if_pos (by simp [Region.wanted])]; unfold Oper.wp; go_simp; go_at_call 12; refine (HC.out _ _ HF2.out HO2.out).mono ?_; rintro e w3 ⟨rfl, hF3⟩; have HF3 : Hid (Fr (fun _ => False) w w3) := HF2.out.trans hF3 (fun _ h => .inl h); clear hF3))
    all_goals
      go_wp2_with fail
      go_ret
      exact ⟨rfl, HF3.out⟩
  all_goals first | exact Nat.le_refl _ | omega | (unfold maxLen; omega) | (unfold maxLen; simp; omega) | (simp; omega)
set_option maxHeartbeats 3200000 in
set_option maxRecDepth 100000 in
theorem bound_def (IH : BdOk n m) (q0 : (k == [118, 97, 114]) = false) (q1 : (k == [102, 110]) = false) (q2 : (k == [100, 101, 102]) = true) {a : Code} (ha : subs[0]? = some a) (h : bR n a (nms ++ [nm]) = some b) (hs : Sh m a) (hN : Nd w (fun _ => False) (nd k z nm ow subs pats) p) (hv : StrRow w v nms) (hl : nms.length + 1 + wt a ≤ 1000) :
    Calls Tryz.prog 12 #[p, v] w fun e w' => e = .returned (.bool b) ∧ Fr (fun _ => False) w w' := by
  obtain ⟨bb, rfl, -, hblt⟩ := hN.ptr
  have hpos : 0 < subs.length := (List.getElem?_eq_some_iff.1 ha).1
  have ha' : subs[0] = a := by rw [List.getElem?_eq_getElem hpos] at ha; injection ha
  have HV : Hid (StrRow w v nms) := hv
  obtain ⟨va, vc, rfl, -⟩ := hv
  obtain ⟨c0, c2, -⟩ := hN.cells
  obtain ⟨g, gc, pv, -, k4, hgl, hcell, hNs⟩ := hN.sub hpos
  rw [ha'] at hNs
  have HC : Hid (∀ w2 v2, Fr (fun _ => False) w w2 → w2.ownsRow w.heap.size 9 1 v2 (nms ++ [nm]).length (strs (nms ++ [nm])) → Calls Tryz.prog 12 #[pv, v2] w2 fun e w' => e = .returned (.bool b) ∧ Fr (fun _ => False) w2 w') := fun w2 v2 h2 h3 => IH h hs (hNs.fr h2) (StrRow.own h3) (by simp; omega)
  clear h hs ha hNs ha' hN
  go_enter Tryz.func12, Tryz.ntmps12
  go_wp2_with (at_builtin; refine wpList_appS slStr rfl (.const (.slice none 0 0)) (.tmp 16) rfl w.heap.size [] nms _ rfl (World.ownsRow_nil _ _ _ _) _ rfl HV.out ?b1 ?b2 ?b3 ?next)
  case next =>
    intro v' w1 hown hgrow
    have hF : Fr (fun _ => False) w w1 := (Fr.refl _ w).grown hgrow (fun j hj => by cases hj)
    have HO : Hid (w1.ownsRow w.heap.size 9 1 v' nms.length (strs nms)) := hown
    have HF : Hid (Fr (fun _ => False) w w1) := hF
    have hw1 : w.heap.size ≤ w1.heap.size := hF.size
    have c01 := (World.cell?_of_block (a := ⟨bb, 0, none⟩) (hF.block bb hblt id)).trans c0
    have c21 := (World.cell?_of_block (a := ⟨bb, 2, none⟩) (hF.block bb hblt id)).trans c2
    have k41 := (World.cell?_of_block (a := ⟨bb, 4, none⟩) (hF.block bb hblt id)).trans k4
    have hcell1 := (World.cell?_of_block (a := ⟨g, 0, none⟩) (hF.block g hgl id)).trans hcell
    have hb1 : bb < w1.heap.size := Nat.lt_of_lt_of_le hblt hw1
    have hg1 : g < w1.heap.size := Nat.lt_of_lt_of_le hgl hw1
    obtain ⟨va1, vc1, rfl⟩ := ownsRow_len (show w1.ownsRow w.heap.size 9 1 v' nms.length (strs nms) from hown)
    clear hown hgrow hF
    go_wp2_with fail
    go_region_law (first
      | (refine step_appS slStr rfl (.tmp 39) (.tmp 44) rfl w.heap.size nms [nm] _ rfl ((HO.out.drew).alloc _) _ rfl StrRow.one (by unfold maxLen; simp; omega) (by simp; omega) (by simp; omega) ?_; rintro v2 w2 hown2 hgrow2; have HO2 : Hid (w2.ownsRow w.heap.size 9 1 v2 (nms ++ [nm]).length (strs (nms ++ [nm]))) := hown2; have HF2 : Hid (Fr (fun _ => False) w w2) := (HF.out.drew.alloc _).grown hgrow2 (fun j hj => .inr (HO.out.lt j hj).1); have k42 := (World.cell?_of_block (a := ⟨bb, 4, none⟩) (HF2.out.block bb hblt id)).trans k4; have hcell2 := (World.cell?_of_block (a := ⟨g, 0, none⟩) (HF2.out.block g hgl id)).trans hcell; have hb2 : bb < w2.heap.size := Nat.lt_of_lt_of_le hblt HF2.out.size; have hg2 : g < w2.heap.size := Nat.lt_of_lt_of_le hgl HF2.out.size; clear hown2 hgrow2)
      | (rw [if_pos (by simp [Region.wanted])]; unfold Oper.wp; go_simp; go_at_call 12; refine (HC.out _ _ HF2.out HO2.out).mono ?_; rintro e w3 ⟨rfl, hF3⟩; have HF3 : Hid (Fr (fun _ => False) w w3) := HF2.out.trans hF3 (fun _ h => .inl h); clear hF3))
    all_goals
      go_wp2_with fail
      go_ret
      exact ⟨rfl, HF3.out⟩
  all_goals first | exact Nat.le_refl _ | omega | (unfold maxLen; omega) | (unfold maxLen; simp; omega) | (simp; omega)
end
end Go.Proofs.YtnbhnjokpcdnnaaGreatDoor
