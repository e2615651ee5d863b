import Derived.Test.YtnbhnjokpcdnnaaGreatDoorQC4
import Derived.Test.YtnbhnjokpcdnnaaGreatDoorQC5
import Derived.Test.YtnbhnjokpcdnnaaGreatDoorQC7
import Derived.Laws.BytesString
import Derived.Deep.RegionLaw
set_option linter.unusedSimpArgs false
set_option linter.unusedVariables false

namespace Go.Proofs.YtnbhnjokpcdnnaaGreatDoor
open Go.RowKit

/-- The unknown types that were seen so far, in a row of the caller's own. -/
structure Seen (w0 w : World) (m : Nat → Option TN) (sv : Value) (n : Nat) : Prop where
  fr : Fr (fun _ => False) w0 w
  row : ∃ ts : List Nat, ts.length = n ∧ w.ownsRow w0.heap.size 50 1 sv n (ts.map ptrV) ∧ ∀ a ∈ ts, tyB m a

theorem sz_lit (a : Array UInt8) : (ByteArray.mk a).size = a.size := rfl

/-- What is wanted of 'typeText' at the parts. -/
def TxOk (w0 : World) (m : Nat → Option TN) (g f : Nat) : Prop := ∀ ⦃x sz n : Nat⦄ ⦃w : World⦄ ⦃sv : Value⦄, szT m g f x = some sz → Seen w0 w m sv n → n + sz ≤ 2000 → Calls Tryz.prog 26 #[.pointer (some ⟨x, 0, none⟩), sv] w fun e w' => ∃ L sv' n', e = .returned (.tuple #[.string L, sv']) ∧ L.size ≤ 12 * sz ∧ Seen w0 w' m sv' n' ∧ n' ≤ n + sz

section
variable {w0 w : World} {m : Nat → Option TN} {base g f x r sz n : Nat} {sv : Value} {t : TN}

set_option maxHeartbeats 3200000 in
set_option maxRecDepth 100000 in
theorem text_leaf (h0 : TS w0 m base) (hr : nowT m g x = some r) (ht : m r = some t) (hk : t.k ≠ []) (hs : t.subs = []) (hl : t.k.length ≤ 4) (hS : Seen w0 w m sv n) (hz : 1 ≤ sz) :
    Calls Tryz.prog 26 #[.pointer (some ⟨x, 0, none⟩), sv] w fun e w' => ∃ L sv' n', e = .returned (.tuple #[.string L, sv']) ∧ L.size ≤ 12 * sz ∧ Seen w0 w' m sv' n' ∧ n' ≤ n + sz := by
  have hT := h0.grow hS.fr
  have HT : Hid (TS w m base) := hT
  have HR : Hid (nowT m g x = some r) := hr
  have HSN : Hid (Seen w0 w m sv n) := hS
  obtain ⟨hrl, c0, -, -, -⟩ := hT.cells ht
  obtain ⟨a, c, c1⟩ := hT.len ht
  rw [hs] at c1
  simp only [List.length_nil] at c1
  have ka : (t.k == []) = false := by simpa using hk
  obtain ⟨ts, -, hrow, -⟩ := hS.row
  obtain ⟨sa, sc, rfl⟩ := ownsRow_len hrow
  clear hT hrow hS hr ht hs hk
  generalize t.k = k at *
  go_enter Tryz.func26, Tryz.ntmps26
  go_wp2_with fail
  refine (now_ref HT.out HR.out).mono ?_
  rintro e w1 ⟨rfl, rfl⟩
  go_wp2_with fail
  (first | go_ret2 | go_ret3)
  exact ⟨_, _, n, rfl, by rw [bs_size]; omega, HSN.out, by omega⟩

set_option maxHeartbeats 3200000 in
set_option maxRecDepth 100000 in
theorem text_one (IH : TxOk w0 m g f) (h0 : TS w0 m base) (hr : nowT m g x = some r) (ht : m r = some t) (hk : t.k ≠ []) {s1 z1 : Nat} (hs : t.subs = [s1]) (hl : t.k.length ≤ 4) (hz1 : szT m g f s1 = some z1) (hS : Seen w0 w m sv n) (hz : 1 + z1 ≤ sz) (hn : n + sz ≤ 2000) :
    Calls Tryz.prog 26 #[.pointer (some ⟨x, 0, none⟩), sv] w fun e w' => ∃ L sv' n', e = .returned (.tuple #[.string L, sv']) ∧ L.size ≤ 12 * sz ∧ Seen w0 w' m sv' n' ∧ n' ≤ n + sz := by
  have hT := h0.grow hS.fr
  have HT : Hid (TS w m base) := hT
  have HT0 : Hid (TS w0 m base) := h0
  have HR : Hid (nowT m g x = some r) := hr
  have HM : Hid (m r = some t) := ht
  have HSUBS : Hid (t.subs = [s1]) := hs
  have HSN : Hid (Seen w0 w m sv n) := hS
  obtain ⟨hrl, c0, -, -, -⟩ := hT.cells ht
  obtain ⟨sg, sgc, c1, hsgl, cs⟩ := hT.sub ht (i := 0) (by rw [hs]; simp)
  simp only [hs, List.length_cons, List.length_nil, Nat.zero_add, List.getElem_cons_zero, ptrV] at c1 cs
  have ka : (t.k == []) = false := by simpa using hk
  obtain ⟨ts, -, hrow, -⟩ := hS.row
  obtain ⟨sa, sc, rfl⟩ := ownsRow_len hrow
  have HX : Hid (Calls Tryz.prog 26 #[.pointer (some ⟨s1, 0, none⟩), .slice sa n sc] w fun e w' => ∃ L sv' n', e = .returned (.tuple #[.string L, sv']) ∧ L.size ≤ 12 * z1 ∧ Seen w0 w' m sv' n' ∧ n' ≤ n + z1) := IH hz1 hS (by omega)
  clear hT hrow hS hr ht hs hk h0
  generalize hkk : t.k = k at *
  go_enter Tryz.func26, Tryz.ntmps26
  go_wp2_with fail
  refine (now_ref HT.out HR.out).mono ?_
  rintro e w1 ⟨rfl, rfl⟩
  go_wp2_with fail
  refine HX.out.mono ?_
  rintro e w2 ⟨L, sv2, n2, rfl, hL, hS2, hn2⟩
  have hT2 := HT0.out.grow hS2.fr
  obtain ⟨hrl2, c02, -, -, -⟩ := hT2.cells HM.out
  obtain ⟨sg2, sgc2, c12, hsgl2, cs2⟩ := hT2.sub HM.out (i := 0) (by rw [HSUBS.out]; simp)
  simp only [HSUBS.out, List.length_cons, List.length_nil, Nat.zero_add, List.getElem_cons_zero, ptrV] at c12 cs2
  rw [hkk] at c02
  have HSN2 : Hid (Seen w0 w2 m sv2 n2) := hS2
  obtain ⟨ts2, -, hrow2, -⟩ := hS2.row
  obtain ⟨sa2, sc2, rfl⟩ := ownsRow_len hrow2
  clear hS2 hrow2 hT2
  go_wp2_with fail
  (first | go_ret2 | go_ret3)
  exact ⟨_, _, n2, rfl, by simp only [ByteArray.size_append, sz_lit, List.size_toArray, List.length_cons, List.length_nil]; omega, HSN2.out, by omega⟩

set_option maxHeartbeats 6400000 in
set_option maxRecDepth 100000 in
theorem text_two (IH : TxOk w0 m g f) (h0 : TS w0 m base) (hr : nowT m g x = some r) (ht : m r = some t) (hk : t.k ≠ []) {s1 z1 s2 z2 : Nat} (hs : t.subs = [s1, s2]) (hz1 : szT m g f s1 = some z1) (hz2 : szT m g f s2 = some z2) (hS : Seen w0 w m sv n) (hz : 1 + z1 + z2 ≤ sz) (hn : n + sz ≤ 2000) :
    Calls Tryz.prog 26 #[.pointer (some ⟨x, 0, none⟩), sv] w fun e w' => ∃ L sv' n', e = .returned (.tuple #[.string L, sv']) ∧ L.size ≤ 12 * sz ∧ Seen w0 w' m sv' n' ∧ n' ≤ n + sz := by
  have hT := h0.grow hS.fr
  have HT : Hid (TS w m base) := hT
  have HT0 : Hid (TS w0 m base) := h0
  have HR : Hid (nowT m g x = some r) := hr
  have HM : Hid (m r = some t) := ht
  have HSUBS : Hid (t.subs = [s1, s2]) := hs
  obtain ⟨hrl, c0, -, -, -⟩ := hT.cells ht
  obtain ⟨sg, sgc, c1, hsgl, cs⟩ := hT.sub ht (i := 0) (by rw [hs]; simp)
  simp only [hs, List.length_cons, List.length_nil, Nat.zero_add, Nat.reduceAdd, List.getElem_cons_zero, ptrV] at c1 cs
  have ka : (t.k == []) = false := by simpa using hk
  obtain ⟨ts, -, hrow, -⟩ := hS.row
  obtain ⟨sa, sc, rfl⟩ := ownsRow_len hrow
  have HX : Hid (Calls Tryz.prog 26 #[.pointer (some ⟨s1, 0, none⟩), .slice sa n sc] w fun e w' => ∃ L sv' n', e = .returned (.tuple #[.string L, sv']) ∧ L.size ≤ 12 * z1 ∧ Seen w0 w' m sv' n' ∧ n' ≤ n + z1) := IH hz1 hS (by omega)
  clear hT hrow hS hr ht hs hk h0
  generalize hkk : t.k = k at *
  go_enter Tryz.func26, Tryz.ntmps26
  go_wp2_with fail
  refine (now_ref HT.out HR.out).mono ?_
  rintro e w1 ⟨rfl, rfl⟩
  go_wp2_with fail
  refine HX.out.mono ?_
  rintro e w2 ⟨L, sv2, n2, rfl, hL, hS2, hn2⟩
  have hT2 := HT0.out.grow hS2.fr
  obtain ⟨hrl2, c02, -, -, -⟩ := hT2.cells HM.out
  obtain ⟨sg2, sgc2, c12, hsgl2, cs2⟩ := hT2.sub HM.out (i := 1) (by rw [HSUBS.out]; simp)
  simp only [HSUBS.out, List.length_cons, List.length_nil, Nat.zero_add, Nat.reduceAdd, List.getElem_cons_zero, List.getElem_cons_succ, ptrV] at c12 cs2
  rw [hkk] at c02
  obtain ⟨ts2, -, hrow2, -⟩ := hS2.row
  obtain ⟨sa2, sc2, rfl⟩ := ownsRow_len hrow2
  have HX2 : Hid (Calls Tryz.prog 26 #[.pointer (some ⟨s2, 0, none⟩), .slice sa2 n2 sc2] w2 fun e w' => ∃ L sv' n', e = .returned (.tuple #[.string L, sv']) ∧ L.size ≤ 12 * z2 ∧ Seen w0 w' m sv' n' ∧ n' ≤ n2 + z2) := IH hz2 hS2 (by omega)
  clear hS2 hrow2 hT2 HX
  go_wp2_with fail
  refine HX2.out.mono ?_
  rintro e w3 ⟨L3, sv3, n3, rfl, hL3, hS3, hn3⟩
  have hT3 := HT0.out.grow hS3.fr
  obtain ⟨hrl3, c03, -, -, -⟩ := hT3.cells HM.out
  rw [hkk] at c03
  have HSN3 : Hid (Seen w0 w3 m sv3 n3) := hS3
  obtain ⟨ts3, -, hrow3, -⟩ := hS3.row
  obtain ⟨sa3, sc3, rfl⟩ := ownsRow_len hrow3
  clear hS3 hrow3 hT3 HX2
  cases kp : (k == [112, 97, 105, 114]) with
  | true =>
    go_wp2_with fail
    (first | go_ret2 | go_ret3)
    exact ⟨_, _, n3, rfl, by simp only [ByteArray.size_append, sz_lit, List.size_toArray, List.length_cons, List.length_nil]; omega, HSN3.out, by omega⟩
  | false =>
    go_wp2_with fail
    (first | go_ret2 | go_ret3)
    exact ⟨_, _, n3, rfl, by simp only [ByteArray.size_append, sz_lit, List.size_toArray, List.length_cons, List.length_nil]; omega, HSN3.out, by omega⟩
end
end Go.Proofs.YtnbhnjokpcdnnaaGreatDoor

namespace Go.Proofs.YtnbhnjokpcdnnaaGreatDoor
open Go.RowKit

theorem conv1 {v : Int} {b : Nat} (w : World) (h : w.cell? ⟨b, 0, none⟩ = some (.int .u8 v)) : (convert 115 9 (.slice (some ⟨b, 0, none⟩) 1 1)).run Tryz.prog w = .ok (.string (ByteArray.empty.push (UInt8.ofNat v.toNat))) w := by
  rw [run_convert_bytes_string w 115 9 5 _ _ _ Tryz.underlying115 Tryz.underlying5 Tryz.underlying9]
  exact run_bytesToString w ⟨b, 0, none⟩ 1 1 [v] (by simp [loadCells, loadCellsFrom, Addr.add, h])
end Go.Proofs.YtnbhnjokpcdnnaaGreatDoor

namespace Go.Proofs.YtnbhnjokpcdnnaaGreatDoor
open Go.RowKit

section
variable {w0 w : World} {m : Nat → Option TN} {base g f x r sz n : Nat} {sv : Value} {t : TN}

theorem grown_cell {w' : World} {row : Option Nat} {k : Nat} (hg : w.grownBy w' row) (hk : k < w.heap.size) (hne : some k ≠ row) : w'.cell? ⟨k, 0, none⟩ = w.cell? ⟨k, 0, none⟩ :=
  World.cell?_of_block (a := ⟨k, 0, none⟩) (hg.block k hk hne)
theorem grown_cell2 {w' : World} {row : Option Nat} {n : Nat} (hg : w.grownBy w' row) (hne : some (n + 1) ≠ row) : w.heap.size = n + 2 → w'.cell? ⟨n + 1, 0, none⟩ = w.cell? ⟨n + 1, 0, none⟩ :=
  fun h => grown_cell hg (by omega) hne

theorem Seen.alloc (h : Seen w0 w m sv n) (o : Obj) : Seen w0 (w.alloc o) m sv n := by
  obtain ⟨ts, h1, h2, h3⟩ := h.row
  exact ⟨h.fr.alloc _, ts, h1, h2.alloc _, h3⟩

set_option maxHeartbeats 6400000 in
set_option maxRecDepth 100000 in
theorem text_any (h0 : TS w0 m base) (hr : nowT m g x = some r) (ht : m r = some t) (hk : t.k = []) (hS : Seen w0 w m sv n) (hz : 1 ≤ sz) (hn : n + sz ≤ 2000) :
    Calls Tryz.prog 26 #[.pointer (some ⟨x, 0, none⟩), sv] w fun e w' => ∃ L sv' n', e = .returned (.tuple #[.string L, sv']) ∧ L.size ≤ 12 * sz ∧ Seen w0 w' m sv' n' ∧ n' ≤ n + sz := by
  have hT := h0.grow hS.fr
  have HT : Hid (TS w m base) := hT
  have HR : Hid (nowT m g x = some r) := hr
  have HM : Hid (m r = some t) := ht
  have HSN : Hid (Seen w0 w m sv n) := hS
  obtain ⟨hrl, c0, -, -, -⟩ := hT.cells ht
  rw [hk] at c0
  obtain ⟨ts, htl, hrow, hty⟩ := hS.row
  obtain ⟨sa, sc, rfl⟩ := ownsRow_len hrow
  have HROW : Hid (w.ownsRow w0.heap.size 50 1 (.slice sa n sc) n (ts.map ptrV)) := hrow
  have HTY : Hid (∀ a ∈ ts, tyB m a) := hty
  have HFR : Hid (Fr (fun _ => False) w0 w) := hS.fr
  clear hT hrow hS hr ht hk hty
  go_enter Tryz.func26, Tryz.ntmps26
  go_wp2_with fail
  refine (now_ref HT.out HR.out).mono ?_
  rintro e w1 ⟨rfl, rfl⟩
  go_wp2_with fail
  go_loopg [6] n (fun mm iv wr => ∃ (j : Nat), iv = .int .i64 j ∧ j ≤ n ∧ mm = n - j ∧ wr = w1)
  case atStart => exact ⟨0, rfl, Nat.zero_le _, rfl, rfl⟩
  case round =>
    obtain ⟨j, rfl, hj, hm, rfl⟩ := hrel
    have HMM : Hid (gk = n - j) := hm
    clear hm
    by_cases hlt : j < n
    · have hjt : j < ts.length := by omega
      have hform : ∃ tg, sa = some ⟨tg, 0, none⟩ ∧ tg < wr.heap.size ∧ wr.cell? ⟨tg, j, none⟩ = some (.pointer (some ⟨ts[j], 0, none⟩)) := by
        rcases HROW.out.2 with ⟨_, h⟩ | ⟨tg, cap, cur, hv, hg, hh, _⟩
        · omega
        · injection hv with hv
          subst hv
          refine ⟨tg, rfl, (Array.getElem?_eq_some_iff.1 hh).1, ?_⟩
          rw [World.ownsRow.cellAt HROW.out j (by omega)]
          simp [hjt, ptrV]
      obtain ⟨tg, rfl, htg, ct⟩ := hform
      obtain ⟨u, hu⟩ := HTY.out _ (List.getElem_mem hjt)
      by_cases he : ts[j] = r
      · have hse := ty_same ⟨r, 0, none⟩ wr
        rw [he] at ct
        have hcv := conv1 (v := 97 + (j : Int) % 26) (b := wr.heap.size) (wr.alloc (.cells #[.int .u8 (97 + (j : Int) % 26)] 5)) (by simp)
        generalize hLb : ByteArray.empty.push (UInt8.ofNat (97 + (j : Int) % 26).toNat) = Lb at *
        have hLs : Lb.size = 1 := by rw [← hLb, ByteArray.size_push]; rfl
        have HSN' : Hid (Seen w0 (wr.alloc (.cells #[.int .u8 (97 + (j : Int) % 26)] 5)) m (.slice (some ⟨tg, 0, none⟩) n sc) n) := ⟨HFR.out.alloc _, ts, htl, HROW.out.alloc _, HTY.out⟩
        clear hu he hLb
        go_wp2_with fail
        (first | go_ret2 | go_ret3)
        exact ⟨_, _, n, rfl, by simp only [ByteArray.size_append, sz_lit, List.size_toArray, List.length_cons, List.length_nil]; omega, HSN'.out, by omega⟩
      · have hso := ty_other HT.out hu HM.out he
        clear hu he
        generalize ts[j] = tj at *
        go_wp2_with fail
        go_roundg (n - (j + 1))
        case measure => rw [HMM.out]; omega
        case rel => exact ⟨j + 1, by go_num, by omega, rfl, rfl⟩
    · obtain rfl : j = n := by omega
      have hcv : ∀ (w : World) (b : Nat), w.cell? ⟨b, 0, none⟩ = some (.int .u8 (IntKind.u8.wrap (IntKind.i64.wrap (97 + (j : Int).tmod 26)))) → (convert 115 9 (.slice (some ⟨b, 0, none⟩) 1 1)).run Tryz.prog w = .ok (.string (ByteArray.empty.push (UInt8.ofNat (IntKind.u8.wrap (IntKind.i64.wrap (97 + (j : Int).tmod 26))).toNat))) w := fun w b h => conv1 w h
      generalize hLb : ByteArray.empty.push (UInt8.ofNat (IntKind.u8.wrap (IntKind.i64.wrap (97 + (j : Int).tmod 26))).toNat) = Lb at *
      have hLs : Lb.size = 1 := by rw [← hLb, ByteArray.size_push]; rfl
      clear hLb
      go_wp2_with fail
      go_region_law (refine step_app slPT rfl (.tmp 44) (.tmp 46) rfl w0.heap.size j (ts.map ptrV) _ rfl (by first | exact HROW.out.drew.alloc _ | exact (HROW.out.drew.alloc _).alloc _) ⟨_, 0, none⟩ 1 1 [.pointer (some ⟨r, 0, none⟩)] rfl rfl (by intro j u hj; match j, hj with | 0, hj => simp at hj; subst hj; simp [Addr.add]) (by intro u hu; simp at hu; rcases hu with rfl; rfl) (by decide) (by unfold maxLen; omega) (by omega) (by have := HFR.out.size; simp; omega) ?_; rintro v2 w3 hown hgrow hv ⟨g', cap, rfl⟩; have HSN3 : Hid (Seen w0 w3 m (.slice (some ⟨g', 0, none⟩) (j + 1) cap) (j + 1)) := ⟨Fr.grown (by repeat (first | exact HFR.out | refine Fr.drew ?_ | refine Fr.alloc ?_ _)) hgrow (fun k hk => .inr (HROW.out.lt k hk).1), ts ++ [r], by simp [htl], by rw [List.map_append]; exact hown, fun a ha => (List.mem_append.1 ha).elim (HTY.out a) (fun h => by simp at h; subst h; exact ⟨t, HM.out⟩)⟩; have hcb3 := grown_cell hgrow (k := wr.heap.size) (by simp; try omega) (fun e => by have := (HROW.out.lt _ e.symm).2; omega); have hcb4 := grown_cell2 hgrow (n := wr.heap.size) (fun e => by have := (HROW.out.lt _ e.symm).2; omega); simp at hcb3 hcb4; clear hown hgrow hv)
      all_goals
        go_wp2_with fail
        (first | go_ret2 | go_ret3)
        exact ⟨_, _, j + 1, rfl, by simp only [ByteArray.size_append, sz_lit, List.size_toArray, List.length_cons, List.length_nil]; omega, by first | exact HSN3.out | exact HSN3.out.alloc _, by omega⟩
end
end Go.Proofs.YtnbhnjokpcdnnaaGreatDoor

namespace Go.Proofs.YtnbhnjokpcdnnaaGreatDoor
open Go.RowKit

section
variable {w0 w : World} {m : Nat → Option TN} {base g : Nat}

theorem text_ref (h0 : TS w0 m base) (hI : Inv m) (hkl : ∀ x t, m x = some t → t.k.length ≤ 4) : ∀ f, TxOk w0 m g f
  | 0 => fun _ _ _ _ _ h => by cases h
  | f + 1 => fun x sz n w sv h hS hn => by
    have IH := text_ref h0 hI hkl f
    rw [szT] at h
    obtain ⟨r, hr, h⟩ := bindS h
    obtain ⟨t, ht, h⟩ := bindS h
    obtain ⟨z, hz, h⟩ := bindS h
    have h : 1 + z = sz := Option.some.inj h
    have hl := hkl r t ht
    by_cases hk : t.k = []
    · exact text_any h0 hr ht hk hS (by omega) hn
    · cases hs : t.subs with
      | nil => exact text_leaf h0 hr ht hk hs hl hS (by omega)
      | cons s1 l1 =>
        rw [hs, szL] at hz
        obtain ⟨z1, hz1, hz⟩ := bindS hz
        obtain ⟨z2, hz2, hz⟩ := bindS hz
        have hz : z1 + z2 = z := Option.some.inj hz
        cases l1 with
        | nil => exact text_one IH h0 hr ht hk hs hl hz1 hS (by omega) hn
        | cons s2 l2 =>
          rw [szL] at hz2
          obtain ⟨z3, hz3, hz2⟩ := bindS hz2
          obtain ⟨z4, hz4, hz2⟩ := bindS hz2
          have hz2 : z3 + z4 = z2 := Option.some.inj hz2
          cases l2 with
          | nil => exact text_two IH h0 hr ht hk hs hz1 hz3 hS (by omega) hn
          | cons s3 l3 =>
            have := hI.two r t ht
            rw [hs] at this
            simp at this

set_option maxHeartbeats 3200000 in
set_option maxRecDepth 100000 in
theorem typeText_ref (h0 : TS w m base) (hI : Inv m) (hkl : ∀ x t, m x = some t → t.k.length ≤ 4) {q : Nat} (hq : tyB m q) : Calls Tryz.prog 14 #[.pointer (some ⟨q, 0, none⟩)] w fun e w' => Fr (fun _ => False) w w' ∧ ∃ s, e = .returned s := by
  obtain ⟨t, ht⟩ := hq
  obtain ⟨g, hg⟩ := sz_some hI
  obtain ⟨f, sz, hsz⟩ := hg q t ht
  have HM : Hid (Calls Tryz.prog 25 #[.pointer (some ⟨q, 0, none⟩), .int .i64 1023] w fun e w' => e = .returned (.bool (decide ((1023 : Int) < sz))) ∧ w' = w) := many_ref hI h0 hsz (by omega) (by omega)
  have HX : Hid (sz ≤ 1023 → Calls Tryz.prog 26 #[.pointer (some ⟨q, 0, none⟩), .slice none 0 0] w fun e w' => ∃ L sv' n', e = .returned (.tuple #[.string L, sv']) ∧ L.size ≤ 12 * sz ∧ Seen w w' m sv' n' ∧ n' ≤ 0 + sz) := fun hle => text_ref h0 hI hkl f hsz ⟨Fr.refl _ _, [], rfl, World.ownsRow_nil _ _ _ _, by simp⟩ (by omega)
  clear hsz hg ht h0 hI hkl
  go_enter Tryz.func14, Tryz.ntmps14
  go_wp2_with fail
  refine HM.out.mono ?_
  rintro e w1 ⟨rfl, rfl⟩
  by_cases hle : sz ≤ 1023
  · have hd : decide ((1023 : Int) < sz) = false := by simp; omega
    rw [hd]
    have HXY : Hid (Calls Tryz.prog 26 #[.pointer (some ⟨q, 0, none⟩), .slice none 0 0] w1 fun e w' => ∃ L sv' n', e = .returned (.tuple #[.string L, sv']) ∧ L.size ≤ 12 * sz ∧ Seen w1 w' m sv' n' ∧ n' ≤ 0 + sz) := HX.out hle
    clear HX HM
    go_wp2_with fail
    refine HXY.out.mono ?_
    rintro e w2 ⟨L, sv2, n2, rfl, -, hS2, -⟩
    have HF : Hid (Fr (fun _ => False) w1 w2) := hS2.fr
    clear hS2
    go_wp2_with fail
    go_ret
    exact ⟨HF.out, _, rfl⟩
  · have hd : decide ((1023 : Int) < sz) = true := by simp; omega
    rw [hd]
    clear HX HM
    go_wp2_with fail
    go_ret
    exact ⟨Fr.refl _ _, _, rfl⟩

end
end Go.Proofs.YtnbhnjokpcdnnaaGreatDoor

namespace Go.Proofs.YtnbhnjokpcdnnaaGreatDoor
open Go.RowKit

section
variable {w0 w : World} {m : Nat → Option TN} {base g : Nat}

theorem cnt_none (N : Nat) : cnt (fun _ => none) N = 0 := by
  induction N with
  | zero => rfl
  | succ n ih => simp only [cnt]; exact ih

theorem inv_none : Inv (fun _ => none) := ⟨(fun _ _ h => by cases h), (fun _ _ h => by cases h), ⟨fun _ => 0, fun _ => 0, 0, fun _ => Nat.le_refl _, (fun _ _ h => by cases h)⟩, (fun _ _ _ _ h => by cases h)⟩

set_option maxHeartbeats 3200000 in
set_option maxRecDepth 100000 in
theorem typeOf_ref {T : Code} {p : Value} {N u v : Nat} (hw : wt T ≤ 480) (hC : Cst N [] T u v) (hv : v ≤ 4000000000000000000) (hN : Nd w (fun b => w.heap.size ≤ b) T p) :
    Calls Tryz.prog 13 #[p] w fun e w' => Fr (fun _ => False) w w' ∧ (e = .returned (.pointer none) ∨ ∃ q, e = .returned (.pointer (some q)) ∧ Calls Tryz.prog 14 #[.pointer (some q)] w' fun e w'' => Fr (fun _ => False) w' w'' ∧ ∃ s, e = .returned s) := by
  obtain ⟨bb, rfl, -, hblt⟩ := hN.ptr
  have hF1 : Fr (fun _ => False) w (w.alloc (.cells #[.bool false, .int .i64 0] 80)) := (Fr.refl _ w).alloc _
  have hcy : Cy w.heap.size w.heap.size (w.alloc (.cells #[.bool false, .int .i64 0] 80)) ⟨fun _ => none, false, 0⟩ := ⟨⟨(fun _ _ h => by cases h)⟩, (MapKept.heap_alloc w _).1, inv_none, (fun _ _ h => by cases h), by decide, Nat.le_refl _, (fun _ _ h => by cases h)⟩
  have hen : EnT (w.alloc (.cells #[.bool false, .int .i64 0] 80)) w.heap.size [] (fun _ => .pointer none) ⟨fun _ => none, false, 0⟩ := ⟨⟨(fun i e h => by simp at h), rfl⟩, (fun e h => by cases h)⟩
  have hpot : pot (w.alloc (.cells #[.bool false, .int .i64 0] 80)) ⟨fun _ => none, false, 0⟩ = 1 := by
    unfold Go.Proofs.YtnbhnjokpcdnnaaGreatDoor.pot
    rw [cnt_none]
    rfl
  have hall : ExOk w.heap.size w.heap.size (wt T + 1) := exp_all (wt T + 1) (Nat.le_trans (Nat.succ_le_succ hw) (by decide))
  have hN1 : Nd (w.alloc (.cells #[.bool false, .int .i64 0] 80)) (fun b => w.heap.size ≤ b) T (.pointer (some ⟨bb, 0, none⟩)) := hN.fr (hF1.mono fun _ h => h.elim)
  have hcost : 0 * u + v ≤ v := by rw [Nat.zero_mul, Nat.zero_add]; exact Nat.le_refl v
  have hpp : pot (w.alloc (.cells #[.bool false, .int .i64 0] 80)) ⟨fun _ => none, false, 0⟩ + (v : Int) ≤ 9223372036854775807 := by rw [hpot]; omega
  have HX0 := hall (w := (w.alloc (.cells #[.bool false, .int .i64 0] 80))) (s := ⟨fun _ => none, false, 0⟩) (l := []) (bp := fun _ => .pointer none) (ns := []) (f := 1) (d := 0) (M := 0) (N := N) (u := u) (v := v) (c := v) (t := T) (p := .pointer (some ⟨bb, 0, none⟩)) hcy hen EO.nil hC (by rw [Nat.zero_add]; exact Nat.lt_succ_self _) hN1 hcost hpp
  have HX : Hid (Calls Tryz.prog 24 #[.pointer (some ⟨w.heap.size, 0, none⟩), .pointer (some ⟨bb, 0, none⟩), .pointer none] (w.alloc (.cells #[.bool false, .int .i64 0] 80)) (TyR w.heap.size w.heap.size (w.alloc (.cells #[.bool false, .int .i64 0] 80)) ⟨fun _ => none, false, 0⟩ v)) := HX0
  clear HX0 hall hN1 hcost hpp
  clear hcy hen hpot hN hC
  go_enter Tryz.func13, Tryz.ntmps13
  go_wp2_with fail
  refine HX.out.mono ?_
  rintro e w2 ⟨s2, q2, rfl, hS2, hq2⟩
  simp only [ptrV]
  have HF2 : Hid (Fr (fun _ => False) w w2) := hF1.trans hS2.fr (fun b hb => hb.elim (fun h => h.elim fun t ht => by cases ht) (fun h => .inr (Nat.le_of_eq h.symm)))
  have HT : Hid (s2.bad = false → Calls Tryz.prog 14 #[.pointer (some ⟨q2, 0, none⟩)] w2 fun e w'' => Fr (fun _ => False) w2 w'' ∧ ∃ s, e = .returned s) := fun _ => typeText_ref hS2.cy.ts hS2.cy.inv hS2.cy.kl hq2
  obtain ⟨hyl, hy0, -, -⟩ := hS2.cy.ty.cells
  clear hS2 hq2 HX hF1
  cases hb : s2.bad with
  | true =>
    rw [hb] at hy0
    go_wp2_with fail
    go_ret
    exact ⟨HF2.out, .inl rfl⟩
  | false =>
    rw [hb] at hy0
    go_wp2_with fail
    go_ret
    exact ⟨HF2.out, .inr ⟨_, rfl, HT.out hb⟩⟩

end
end Go.Proofs.YtnbhnjokpcdnnaaGreatDoor

namespace Go.Proofs.YtnbhnjokpcdnnaaGreatDoor
open Go.RowKit

section
variable {w0 w : World} {m : Nat → Option TN} {base g : Nat}

/-- The types end. -/
theorem allTy : AllTy := by
  intro ws T names s m x hl hD hTe hwt hb w p hN
  obtain ⟨N, u, v, hC, hv⟩ := ct_top hl hD (hb (2 * m) (Nat.le_refl _))
  exact typeOf_ref hwt hC hv (hN.any (Fr.refl _ _) (fun b hb h => by omega))

theorem reads_holds : Rows.ReadsCardSaid := reads_card allTy
end
end Go.Proofs.YtnbhnjokpcdnnaaGreatDoor
