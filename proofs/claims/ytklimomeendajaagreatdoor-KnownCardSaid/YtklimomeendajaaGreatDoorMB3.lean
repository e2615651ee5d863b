import Derived.Lib.AppendStr
import Derived.Laws.BytesString
import Derived.Test.YtklimomeendajaaGreatDoorMB2
set_option linter.unusedVariables false
set_option linter.unusedSimpArgs false
/- Rows of bytes. -/
namespace Go.Proofs.YtklimomeendajaaGreatDoor
open Go.RowKit

def byC (l : List UInt8) : List Value := l.map fun b => .int .u8 (b.toNat : Int)

abbrev bz (l : List UInt8) : ByteArray := ⟨l.toArray⟩

theorem strC (l : List UInt8) : Lib.strCells (bz l) = byC l := by simp [Lib.strCells, byC]
theorem bz_size (l : List UInt8) : (bz l).size = l.length := by show l.toArray.size = _; simp


theorem row_le {W : World} {base : Nat} {e : TypeId} {z n : Nat} {v : Value} {xs : List Value} (hr : W.ownsRow base e z v n xs) : n ≤ 9223372036854775807 := by
  rcases hr.2 with ⟨_, h0⟩ | ⟨g', cap', cur', h1, _, _, h2, h3, _⟩
  · omega
  · unfold maxLen at h3; omega

theorem rowKeep {O : Nat → Prop} {W W' : World} {base e n : Nat} {v : Value} {xs : List Value} {z : Nat} (hF : Fr O W W') (hr : W.ownsRow base e z v n xs) (hO : ∀ b, v.ownBlock = some b → ¬ O b) : W'.ownsRow base e z v n xs :=
  ownsRow_block hr fun b hb => hF.block b (hr.lt b hb).2 (hO b hb)

section
variable {P : Program} {t e u : TypeId} {w : World} {base : Nat} {v : Value} {n : Nat} {xs : List Value}

/-- 'append', a string's bytes: where the row lies behind. -/
theorem run_app_str (T : SlT P t e (.int .u8 0) 1 1) (hu : P.underlying u = some .string) (ty : TypeId) (hown : w.ownsRow base e 1 v n xs) (s : ByteArray) (h63 : n + s.size ≤ maxLen) (hbytes : n + s.size ≤ 140737488355328) (hbase : base ≤ w.heap.size) :
    ∃ v' w', (Builtin.append_ #[t, u] ty #[v, .string s]).run P w = .ok v' w' ∧ w'.ownsRow base e 1 v' (n + s.size) (xs ++ Lib.strCells s) ∧ w.grownBy w' v.ownBlock ∧ (v'.ownBlock = v.ownBlock ∨ v'.ownBlock = some w.heap.size) := by
  obtain ⟨i, hi, hz, hsize, hby⟩ := T.hi
  obtain ⟨v', w', hr, h2, h3, h4⟩ := Lib.run_append_own_string (P := P) w base t u ty e i T.ht hu hi hz hsize hby v n xs hown s h63 hbytes hbase
  refine ⟨v', w', hr, h2, h3, ?_⟩
  have hsmall : n + s.size ≤ 9223372036854775807 := by simp only [maxLen] at h63; omega
  rcases hown.2 with ⟨rfl, rfl⟩ | ⟨g, cap, cur, rfl, hbg, hg, hnc, hcm, hcs, htake⟩
  · by_cases hm : s.size = 0
    · rw [h4.2 ⟨rfl, hm⟩]
      exact .inl rfl
    · rcases h2.2 with ⟨_, h0⟩ | ⟨g, cap, cur, hv, hb, hg, _⟩
      · omega
      · right
        rw [hv]
        have hr' := run_append_nil_string (P := P) w t u ty e i (.int .u8 0) T.ht hu hi hz s (by omega) (by omega) (by rw [hby]; omega)
        rw [hr] at hr'
        simp only [Result.ok.injEq] at hr'
        rw [hv] at hr'
        have := hr'.1
        simp only [Value.slice.injEq, Option.some.injEq] at this
        rw [this.1]
        rfl
  · have hxl : xs.length = n := by simpa using hown.1
    by_cases hroom : n + s.size ≤ cap
    · have hcs' : cur.size = cap := by simpa using hcs
      have hr' := Lib.run_append_room_string (P := P) w t u ty e i T.ht hu hi hsize g n cap cur hg s hroom (by omega)
      rw [hr] at hr'
      simp only [Result.ok.injEq] at hr'
      rw [hr'.1]
      exact .inl rfl
    · have holds : ∀ j u, xs[j]? = some u → w.cell? ((⟨g, 0, none⟩ : Addr).add j) = some u := hown.cells (g := g) rfl
      have hr' := Lib.run_append_grow_string (P := P) w t u ty e i (.int .u8 0) T.ht hu hi hz ⟨g, 0, none⟩ n cap xs (by rw [hsize]; simpa using hxl) holds s (by omega) (by omega) (by rw [hby]; exact growslice_fits (by omega) (by omega))
      rw [hr] at hr'
      simp only [Result.ok.injEq] at hr'
      rw [hr'.1]
      exact .inr rfl

theorem wpList_app_str {ops : Array Oper} {rest : List Oper} {o : Oper} {a : Act} {Q : Exit → Act → World → Prop} (T : SlT P t e (.int .u8 0) 1 1) (hu : P.underlying u = some .string) (hgd : o.guard = none) (s x : Operand)
    (ho : o.op = .call { callee := .builtin .append, args := #[s, x], argTypes := #[t, u] }) (base : Nat) (n : Nat) (xs : List Value) (v : Value) (hs : a.eval s = v) (hown : w.ownsRow base e 1 v n xs) (l : List UInt8) (hx : a.eval x = .string (bz l))
    (h63 : n + l.length ≤ maxLen) (hbytes : n + l.length ≤ 140737488355328) (hbase : base ≤ w.heap.size)
    (h : ∀ v' w', w'.ownsRow base e 1 v' (n + l.length) (xs ++ byC l) → w.grownBy w' v.ownBlock → (v'.ownBlock = v.ownBlock ∨ v'.ownBlock = some w.heap.size) → wpList P ops Q rest (a.put o.dst v') w') :
    wpList P ops Q (o :: rest) a w := by
  refine wpList_plain hgd fun K hK => ?_
  obtain ⟨v', w', hr, h2, h3, h4⟩ := run_app_str (w := w) T hu o.type hown (bz l) (by rw [bz_size]; exact h63) (by rw [bz_size]; exact hbytes) hbase
  rw [bz_size, strC] at h2
  unfold Oper.wp execOp
  simp only [ho, resolve, invoke, builtin, Sem.run_bind, Sem.run_pure, Result.andThen_ok, List.map_toArray, List.map_cons, List.map_nil, hs, hx, hr]
  exact hK _ _ (h v' w' h2 h3 h4)
end

theorem pushAll : ∀ (l : List UInt8) (r : ByteArray), (l.map fun b => (b.toNat : Int)).foldl (fun r n => r.push (UInt8.ofNat n.toNat)) r = ⟨r.data ++ l.toArray⟩
  | [], r => by
    show r = _
    rw [show r.data ++ ([] : List UInt8).toArray = r.data by simp]
  | b :: l, r => by
    rw [List.map_cons, List.foldl_cons, pushAll l]
    have h1 : UInt8.ofNat ((b.toNat : Int).toNat) = b := by simp
    rw [h1]
    show ByteArray.mk (r.data.push b ++ l.toArray) = _
    simp

/-- A row of bytes as a string. -/
theorem run_conv {P : Program} {w : World} {src dst e : TypeId} {base : Nat} {v : Value} {l : List UInt8} (hs : P.underlying src = some (.slice e)) (he : P.underlying e = some (.int .u8)) (hd : P.underlying dst = some .string) (h : w.ownsRow base e 1 v l.length (byC l)) :
    (convert src dst v).run P w = .ok (.string (bz l)) w := by
  rcases h.2 with ⟨rfl, h0⟩ | ⟨g, cap, cur, rfl, hb, hg, hnc, hcm, hcs, ht⟩
  · rw [run_convert_bytes_string w src dst e none 0 0 hs he hd]
    have hl : l = [] := List.eq_nil_of_length_eq_zero h0
    subst hl
    unfold Conv.bytesToString
    simp [Sem.run_pure]
    rfl
  · rw [run_convert_bytes_string w src dst e _ _ _ hs he hd]
    have hc : (loadCells ⟨g, 0, none⟩ l.length).run P w = .ok ((l.map fun b => (b.toNat : Int)).map (Value.int .u8)).toArray w := by
      have hc := run_loadCells_list (P := P) w ⟨g, 0, none⟩ (byC l) (h.cells (g := g) rfl)
      have e1 : (byC l).length = l.length := by simp [byC]
      have e2 : ((l.map fun b => (b.toNat : Int)).map (Value.int .u8)) = byC l := by simp [byC]
      rw [e1] at hc
      rw [e2]
      exact hc
    rw [run_bytesToString w ⟨g, 0, none⟩ l.length cap (l.map fun b => (b.toNat : Int)) hc, pushAll]
    simp
end Go.Proofs.YtklimomeendajaaGreatDoor
