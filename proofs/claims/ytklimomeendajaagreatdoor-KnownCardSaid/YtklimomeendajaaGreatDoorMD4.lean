import Derived.Test.YtklimomeendajaaGreatDoorRows
import Derived.Test.YtklimomeendajaaGreatDoorTie
import Derived.Test.YtklimomeendajaaGreatDoorCards
import Derived.SevenTiedAt
import Derived.ProofKit
import Derived.LaidMore
import Derived.OpenShut
import Derived.Stop.Joined
import Derived.ChangeMaps5
import Derived.Test.YtklimomeendajaaGreatDoorMD3
set_option linter.unusedVariables false
set_option linter.unusedSimpArgs false
/- Known: the row and its card. -/
namespace Go.Proofs.YtklimomeendajaaGreatDoor
open Go.ChangeMaps Go.ChangeShapes Go.WideShapes Go.ChangeAt Go.WideMaps Go.WideElems Go.RowKit

theorem ownK : ownKnob Tryz.prog.godebug = none := by kernel_rfl
theorem gKey : Tryz.prog.globalNamed "resume/words.keywords" = some 0 := by kernel_rfl
theorem gSig : Tryz.prog.globalNamed "resume/words.signs" = some 1 := by kernel_rfl
theorem tKey : (Tryz.prog.globals[0]?).map (·.type) = some 257 := by kernel_rfl
theorem tSig : (Tryz.prog.globals[1]?).map (·.type) = some 259 := by kernel_rfl
theorem tPow : (Tryz.prog.globals[2]?).map (·.type) = some 344 := by kernel_rfl

/-- The variables that the rows with runs list. -/
abbrev laid5 : List (String × DataW Unit) := Rows.knownRow.laid

/-- An array of texts, read: its cells. -/
theorem cells_of {W : World} {H : Type} {enc : TypeId × Value → H} {base : Nat} {sp : Nat → Bool} {held : Bool} {fuel n : Nat} {t : TypeId} {cs : Array Value} {L : List (List UInt8)} {ps : List MemPlace} (ht : Tryz.prog.underlying t = some (.array n 9)) (hL : L.length = n)
    (hd : DataW.trod enc Tryz.prog W base sp held fuel t cs.toList = some (.agg (L.map fun x => .lit (.string x)), ps)) : ∀ i, i < n → cs[i]? = some (.string (bs (L.getD i []))) := by
  obtain ⟨xs, m, rfl, hx, hlen, hn, hel⟩ := DataW.trod_array ht hd
  have c9 : Tryz.prog.cellsOf 9 = 1 := by kernel_rfl
  intro i hi
  have h1 := hel i hi
  rw [c9, Nat.mul_one] at h1
  simp only [Prod.mk.injEq, DataW.agg.injEq] at hx
  have hxi : xs[i]? = some xs[i] := List.getElem?_eq_getElem (by omega)
  rw [hxi] at h1
  obtain ⟨s, e1, e2, -⟩ := DataW.trod_string Tryz.underlying9 h1
  have h2 : (L.map fun x => (DataW.lit (.string x) : DataW H))[i]? = (xs.map (·.1))[i]? := by rw [hx.1]
  rw [List.getElem?_map, List.getElem?_map, hxi, List.getElem?_eq_getElem (by omega), e2] at h2
  simp at h2
  have h3 : cs.toList[i]? = some (.string s) := by
    have := congrArg (fun l => l[0]?) e1
    simpa [List.getElem?_take, List.getElem?_drop] using this
  rw [List.getD_eq_getElem?_getD, List.getElem?_eq_getElem (by omega)]
  simp only [Option.getD_some]
  rw [h2]
  simpa using h3

theorem kw_of_laid {W : World} (h : laidMetH Tryz.prog laid5 W) : KW W ∧ TB W := by
  rw [MakeChecks.laidMetH_plain _ _ _ (by kernel_rfl)] at h
  obtain ⟨ps, ⟨_, _, _, _, _, _, _, _, _, _, ⟨_, _, _, _, _, _, _, _, _, _, ⟨gp, tp, csp, fp, pp, qp, hgp, htp, hvp, hdp, ⟨g0, t0, cs0, f0, p0, q0, hg0, ht0, hv0, hd0, ⟨g1, t1, cs1, f1, p1, q1, hg1, ht1, hv1, hd1, _, _⟩, _⟩, _⟩, _⟩, _⟩, _, _⟩ := h
  obtain rfl := Option.some.inj (gKey.symm.trans hg0)
  obtain rfl := Option.some.inj (gSig.symm.trans hg1)
  obtain rfl := Option.some.inj (tKey.symm.trans ht0)
  obtain rfl := Option.some.inj (tSig.symm.trans ht1)
  obtain rfl := Option.some.inj (gpow.symm.trans hgp)
  obtain rfl := Option.some.inj (tPow.symm.trans htp)
  refine ⟨⟨fun i hi => ?_, fun i hi => ?_⟩, ?_⟩
  · rw [World.var?_cell hg0 hv0 i]
    exact cells_of (L := kwList) Tryz.underlying257 rfl hd0 i hi
  · rw [World.var?_cell hg1 hv1 i]
    exact cells_of (L := sgList) Tryz.underlying259 rfl hd1 i hi
  · have hz : csp.toList = Lib.pow10Tab.map fun z => Value.int .u64 z := Lib.cells_of_tab (zs := Lib.pow10Tab) Tryz.underlying344 Tryz.underlying338 (by kernel_rfl) (by kernel_rfl) hdp
    unfold TB Lib.TabIs
    rw [hvp, ← hz]

/-- The door's own heap meets the condition. -/
theorem door_met (os : Os) (args : Array Value) : laidMetH Tryz.prog laid5 ((World.doorLaid Tryz.prog 400 os).forCall (fun _ _ => 0) ⟨#[], args, []⟩).memory :=
  laidMetH_of_parts3 (fuel := 8) (laidMet_of_run' 8 (by kernel_rfl) (by kernel_rfl)) (by kernel_rfl) (by kernel_rfl)

set_option maxRecDepth 100000 in
theorem known_lifted (os : Os) (started : os.Started) (H : Type) (enc : TypeId × Value → H) :
    ReturnsInHanded {} Tryz.checked os 11 .any (fun w args => (Rows.knownSpec.pre enc Tryz.prog Tryz.f11 [] false w args ∧ laidMetH Tryz.prog laid5 w) ∧ sizedMet enc Tryz.prog Tryz.f11 (OpenSpec.ofChange Rows.knownSpec) false w args)
      (Rows.knownSpec.post enc Tryz.prog Tryz.f11 false true false false) := by
  refine returnsInHanded_of_change_and (C := Tryz.checked) (X := fun w _ => laidMetH Tryz.prog laid5 w) (fun _ _ _ hh h => h.of_heap hh) ownK started (by kernel_rfl) Tryz.func11
    (ChangeSpec.witness_shaped (enc := enc) (C := Tryz.checked) (os := os) (X := fun w _ => laidMetH Tryz.prog laid5 w) false (World.doorLaid Tryz.prog 400 os) #[.int .i64 0] 8 rfl (World.shaped_of_RefB (by kernel_rfl) (by kernel_rfl)) (by kernel_rfl) (by kernel_rfl) (by kernel_rfl) (door_met os _)) ?_
  intro W base args ds gs before hval0 hW _ _ hL _
  have hval : ∀ (j : Nat) t v, Tryz.f11.params[j]? = some t → args[j]? = some v → Value.okWide Tryz.prog W .any base t v := hval0
  have hW' := hW
  obtain ⟨p, q, hA0, hV, rfl, hfz, hnd⟩ := hW
  have hA : DataW.TrodAll enc Tryz.prog W 0 (fun _ => true) true Tryz.f11.params.toList args.toList ds p := hA0
  rw [Tryz.params11] at hA hval
  obtain ⟨v0, d0, rfl, rfl, h0⟩ := trodAll_one hA
  obtain ⟨rfl, rfl⟩ := trodVars_none hV
  obtain ⟨n, rfl, rfl, rfl, hn⟩ := open_int Tryz.underlying3 (hval 0 3 v0 rfl rfl) h0
  obtain ⟨hkw, htb⟩ := kw_of_laid hL
  clear hA0 hval0
  simp only [List.append_nil] at hW'
  have hb := bounds_i64 hn
  refine (known_c gOk hb.1 hb.2 hkw htb).mono fun e W' ⟨hF, he⟩ => ?_
  subst he
  have e1 : Rows.knownSpec.fn H ([.lit (.int .i64 n)] ++ []) = { results := [.lit (.bool true)], args := [.lit (.int .i64 n)] } := by simp [Rows.knownSpec]
  refine ⟨_, rfl, _, _, _, [], [], [], hW', ?_, ?_, ?_, (hF.below (Nat.le_refl _) (fun _ h => h.elim)).frame _, fun h => by cases h⟩
  · rw [e1]; exact trodAll_mk1 (shut_bool Tryz.underlying4 true)
  · rw [e1]; exact trodAll_mk1 (shut_int Tryz.underlying3 hn)
  · rw [e1]; rfl

theorem known_row : Rows.KnownSaid :=
  OpenClaim.holds_of_wide 11 Tryz.f11 rfl rfl rfl rfl rfl rfl rfl ⟨rfl, rfl, rfl, rfl, rfl⟩ rfl rfl rfl rfl rfl (by kernel_rfl) Tryz.func11 (by kernel_rfl)
    (of_decide_eq_true (by kernel_rfl)) (by unfold Func.isWrapper; first | (rw [if_pos (by decide +kernel)]; kernel_rfl) | (rw [if_neg (by decide +kernel)]; exact ⟨rfl, rfl⟩))
    (fun os started H enc _ => known_lifted os started H enc)

/-- The card. -/
theorem known_holds : Rows.KnownCardSaid :=
  Claim7.holds_tied_plain_at .later [] [.data, .data, .data, .data, .data] true (true, "7b884d6824bb93c19c0ba717ff2088219c0cbc64abd14a98736aa6e1f88a732e") false
    known_row (fun _ h => by cases h) (by kernel_rfl) (fun _ h => by cases h) known_row_tie rfl ⟨rfl, rfl⟩ (by kernel_rfl) rfl
    (fun f fn hf hfn => by
      obtain rfl : f = 11 := Option.some.inj ((show Tryz.prog.funcNamed "resume/resumekeep.Known" = some 11 by kernel_rfl).symm.trans hf) |>.symm
      obtain rfl : fn = Tryz.f11 := (Option.some.inj (Tryz.func11.symm.trans hfn)).symm
      exact ⟨by kernel_rfl, fun j t ht => by
        rw [Tryz.params11] at ht
        have h3 : t = 3 := by
          rcases j with _ | j
          · simpa using ht.symm
          · simp at ht
        subst h3
        exact (show Tryz.prog.wantsStandIn 3 = false by kernel_rfl)⟩)
    (by kernel_rfl)
end Go.Proofs.YtklimomeendajaaGreatDoor
