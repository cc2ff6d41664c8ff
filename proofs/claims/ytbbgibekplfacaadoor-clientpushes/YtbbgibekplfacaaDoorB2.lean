import Derived.Test.YtbbgibekplfacaaDoorI2
import Derived.Test.YtbbgibekplfacaaDoorB1
import Derived.Test.YtbbgibekplfacaaDoorSH
import Derived.Lib.AppendStr
import Derived.Test.YtbbgibekplfacaaDoorP3
/- strings.Clone, Read, and the reader's Text. -/
namespace Go.Proofs.YtbbgibekplfacaaDoor.X
open Go Go.RowKit
theorem emp_extract (i j : Nat) : (⟨#[]⟩ : ByteArray).extract i j = ⟨#[]⟩ := by
  apply eq_of_byt
  · have e : (⟨#[]⟩ : ByteArray).size = 0 := rfl
    simp; omega
  · intro k hk
    have e : (⟨#[]⟩ : ByteArray).size = 0 := rfl
    simp at hk; omega
end Go.Proofs.YtbbgibekplfacaaDoor.X
/- The writer: its block, fail, add. -/
namespace Go.Proofs.YtbbgibekplfacaaDoor.X
open Go Go.RowKit
/-- In block b lies a writer that has gathered those bytes in the slice v, its row from base on. -/
structure Wr (w : World) (base b : Nat) (v : Value) (s : ByteArray) (failed : Bool) : Prop where
  lo : b < base
  hi : base ≤ w.heap.size
  blk : w.heap[b]? = some (.cells #[v, .bool failed] 117 (0, 0))
  own : w.ownsRow base 5 1 v s.size (Lib.strCells s)
/-- What a writer's call leaves: the blocks below base but its own one, and all that are no rows of bytes. -/
structure Fr (base b : Nat) (w w' : World) : Prop where
  os : w'.os = w.os
  tape : w'.tape = w.tape
  output : w'.output = w.output
  size : w.heap.size ≤ w'.heap.size
  low : ∀ k, k < base → k ≠ b → w'.heap[k]? = w.heap[k]?
  typ : ∀ k c t fr, w.heap[k]? = some (.cells c t fr) → t ≠ 5 → k ≠ b → w'.heap[k]? = w.heap[k]?
theorem Fr.refl (base b : Nat) (w : World) : Fr base b w w := ⟨rfl, rfl, rfl, Nat.le_refl _, fun _ _ _ => rfl, fun _ _ _ _ _ _ _ => rfl⟩
theorem Fr.trans {base b : Nat} {w1 w2 w3 : World} (h : Fr base b w1 w2) (k : Fr base b w2 w3) : Fr base b w1 w3 :=
  ⟨k.os.trans h.os, k.tape.trans h.tape, k.output.trans h.output, Nat.le_trans h.size k.size, fun i hi hb => (k.low i hi hb).trans (h.low i hi hb),
    fun i c t fr hc ht hb => by
      have h1 := h.typ i c t fr hc ht hb
      exact (k.typ i c t fr (h1.trans hc) ht hb).trans h1⟩
theorem Fr.ofBelow {base b : Nat} {w w' : World} (h : Below w.heap.size w w') (hb : base ≤ w.heap.size) : Fr base b w w' :=
  ⟨h.os, h.tape, h.output, h.size, fun k hk _ => h.block k (by omega), fun k c t fr hc _ _ => h.block k (Array.getElem?_eq_some_iff.1 hc).1⟩
theorem Fr.set {base b : Nat} (w : World) (i : Nat) (v : Value) : Fr base b w (w.setCell ⟨b, i, none⟩ v) :=
  ⟨rfl, rfl, rfl, by simp [World.setCell], fun k _ hb => Below.heap_setCell _ _ _ _ hb, fun k _ _ _ _ _ hb => Below.heap_setCell _ _ _ _ hb⟩
theorem Fr.ofRow {base b : Nat} {w w' : World} {v : Value} {n : Nat} {xs : List Value} (hg : w.grownBy w' v.ownBlock) (ho : w.ownsRow base 5 1 v n xs) (hb : base ≤ w.heap.size) : Fr base b w w' := by
  refine ⟨hg.os, hg.tape, hg.output, hg.size, fun k hk _ => hg.block k (by omega) ?_, fun k c t fr hc ht _ => hg.block k (Array.getElem?_eq_some_iff.1 hc).1 ?_⟩
  · intro e
    have := (ho.lt k e.symm).1
    omega
  · intro e
    rcases ho.2 with ⟨rfl, _⟩ | ⟨g, cap, cur, rfl, _, hgg, _⟩
    · simp [Value.ownBlock] at e
    · simp [Value.ownBlock] at e
      subst e
      rw [hgg] at hc
      simp at hc
      exact ht hc.2.1.symm
theorem Fr.below {B base b : Nat} {w0 w w' : World} (h : Below B w0 w) (k : Fr base b w w') (h1 : B ≤ b) (h2 : b < base) : Below B w0 w' :=
  h.trans ⟨k.os, k.tape, k.output, k.size, fun i hi => k.low i (by omega) (by omega)⟩
theorem Wd.fr {base b : Nat} {w w' : World} (h : Wd w) (k : Fr base b w w') (h0 : 0 < b) (h1 : b < base) : Wd w' := by
  have hb : Below 1 w w' := ⟨k.os, k.tape, k.output, k.size, fun i hi => k.low i (by omega) (by omega)⟩
  exact ⟨(hb.cell (by show 0 < 1; omega)).trans h.c0, (hb.cell (by show 0 < 1; omega)).trans h.c1, (hb.cell (by show 0 < 1; omega)).trans h.c2, (hb.cell (by show 0 < 1; omega)).trans h.c3, Nat.lt_of_lt_of_le h.pos k.size⟩
theorem Wr.c0 {w base b v s failed} (h : Wr w base b v s failed) : w.cell? ⟨b, 0, none⟩ = some v := by have := h.blk; simp [World.cell?, this]
theorem Wr.c1 {w base b v s failed} (h : Wr w base b v s failed) : w.cell? ⟨b, 1, none⟩ = some (.bool failed) := by have := h.blk; simp [World.cell?, this]
theorem Wr.f0 {w base b v s failed} (h : Wr w base b v s failed) (i : Nat) : w.frozen? ⟨b, i, none⟩ = false := by have := h.blk; simp [World.frozen?, this]
theorem Wr.below {w w' : World} {base b v s failed} (h : Wr w base b v s failed) (k : Below w.heap.size w w') : Wr w' base b v s failed :=
  ⟨h.lo, Nat.le_trans h.hi k.size, (k.block b (Nat.lt_of_lt_of_le h.lo h.hi)).trans h.blk, h.own.kept (row := none) (grown_below k) (by cases hv : v.ownBlock <;> simp)⟩
theorem Wr.nilv {w base b s failed} (h : Wr w base b (.slice none 0 0) s failed) : s = ⟨#[]⟩ := by
  have h0 : s.size = 0 := by
    rcases h.own.2 with ⟨_, hn⟩ | ⟨g, cap, cur, hv, _⟩
    · exact hn
    · simp at hv
  apply eq_of_byt
  · rw [h0]; rfl
  · intro i hi; omega
theorem strCells_append (a c : ByteArray) : Lib.strCells (a ++ c) = Lib.strCells a ++ Lib.strCells c := by
  simp [Lib.strCells]
set_option maxHeartbeats 400000 in
theorem wfail_any (base b : Nat) (v : Value) (s : ByteArray) (failed : Bool) (w : World) (h : Wr w base b v s failed) :
    Calls Tryd.prog 96 #[.pointer (some ⟨b, 0, none⟩)] w fun x w' => x = .returned (.tuple #[]) ∧ Wr w' base b (.slice none 0 0) ⟨#[]⟩ true ∧ Fr base b w w' := by
  have c0 := h.c0
  have c1 := h.c1
  have f0 := h.f0 0
  have f1 := h.f0 1
  have HB := Lib.hid h
  clear h
  go_enter Tryd.func96, Tryd.ntmps96
  go_wp2
  first | go_end0 | refine bodyPost_ret (results_none rfl _ _ _) rfl ?_
  refine ⟨rfl, ⟨HB.out.lo, ?_, ?_, World.ownsRow_nil _ _ _ _⟩, (Fr.set _ _ _).trans (Fr.set _ _ _)⟩
  · have := HB.out.hi; simp [World.setCell]; omega
  · have := HB.out.blk
    simp [World.setCell, Array.getElem?_modify, this]
set_option maxHeartbeats 400000 in
theorem add_dead (base b : Nat) (v : Value) (s t : ByteArray) (w : World) (h : Wr w base b v s true) :
    Calls Tryd.prog 97 #[.pointer (some ⟨b, 0, none⟩), .string t] w fun x w' => x = .returned (.tuple #[]) ∧ w = w' := by
  have c1 := h.c1
  clear h
  go_enter Tryd.func97, Tryd.ntmps97
  go_wp2
  first | go_end0 | refine bodyPost_ret (results_none rfl _ _ _) rfl ?_
  exact ⟨rfl, rfl⟩
set_option maxHeartbeats 400000 in
theorem add_live (base b : Nat) (v : Value) (s t : ByteArray) (hsz : s.size + t.size ≤ 140737488355328) (w : World) (h : Wr w base b v s false) :
    Calls Tryd.prog 97 #[.pointer (some ⟨b, 0, none⟩), .string t] w fun x w' => x = .returned (.tuple #[]) ∧ (∃ v', Wr w' base b v' (s ++ t) false) ∧ Fr base b w w' := by
  obtain ⟨i0, hi, hz0, hz1, hz2⟩ := info_parts info5
  have c0 := h.c0
  have c1 := h.c1
  have hb := h.lo
  have HB := Lib.hid h
  clear h
  go_enter Tryd.func97, Tryd.ntmps97
  go_wp2_with (at_builtin; refine Lib.wpList_append_own_string _ rfl _ _ 113 9 rfl base 5 i0 Tryd.underlying113 Tryd.underlying9 hi hz0 hz1 hz2 v s.size (Lib.strCells s) rfl HB.out.own t rfl (by unfold maxLen; omega) (by omega) HB.out.hi ?_)
  intro v' w1 hown hgrow _
  have hfr : Fr base b w w1 := Fr.ofRow hgrow HB.out.own HB.out.hi
  have hblk : w1.heap[b]? = some (.cells #[v, .bool false] 117 (0, 0)) := (hgrow.block b (Nat.lt_of_lt_of_le HB.out.lo HB.out.hi) (fun e => by have := (HB.out.own.lt b e.symm).1; omega)).trans HB.out.blk
  have d0 : w1.cell? ⟨b, 0, none⟩ = some v := by simp [World.cell?, hblk]
  have f0 : w1.frozen? ⟨b, 0, none⟩ = false := by simp [World.frozen?, hblk]
  have hhi := Nat.le_trans HB.out.hi hfr.size
  obtain ⟨a', n', c', rfl⟩ : ∃ a' n' c', v' = .slice a' n' c' := by
    rcases hown.2 with ⟨e, _⟩ | ⟨g, cap, cur, e, _⟩
    · exact ⟨_, _, _, e⟩
    · exact ⟨_, _, _, e⟩
  have HF := Lib.hid hfr
  have HO := Lib.hid hown
  have HK := Lib.hid hblk
  clear hfr hown hgrow c0 c1 hblk
  go_wp2
  first | go_end0 | refine bodyPost_ret (results_none rfl _ _ _) rfl ?_
  refine ⟨rfl, ⟨.slice a' n' c', hb, ?_, ?_, ?_⟩, HF.out.trans (Fr.set _ _ _)⟩
  · simp [World.setCell]; omega
  · have := HK.out
    simp [World.setCell, Array.getElem?_modify, this]
  · rw [ByteArray.size_append, strCells_append]
    exact ownsRow_setCell_below HO.out hb _
/-- What a writer holds behind a text: more, unless it failed. -/
theorem add_any (base b : Nat) (v : Value) (s t : ByteArray) (failed : Bool) (hsz : s.size + t.size ≤ 140737488355328) (w : World) (h : Wr w base b v s failed) :
    Calls Tryd.prog 97 #[.pointer (some ⟨b, 0, none⟩), .string t] w fun x w' => x = .returned (.tuple #[]) ∧ (∃ v', Wr w' base b v' (if failed then s else s ++ t) failed) ∧ Fr base b w w' := by
  cases failed with
  | true =>
    refine (add_dead base b v s t w h).mono ?_
    rintro x w1 ⟨rfl, rfl⟩
    exact ⟨rfl, ⟨v, h⟩, Fr.refl _ _ _⟩
  | false => exact add_live base b v s t hsz w h
def nums (s : ByteArray) : List Int := s.data.toList.map fun c => (c.toNat : Int)
theorem nums_length (s : ByteArray) : (nums s).length = s.size := by simp [nums]
theorem strOfNums_nums (s : ByteArray) : strOfNums (nums s) = s := by
  apply ByteArray.ext
  apply Array.ext'
  show ((s.data.toList.map fun c => (c.toNat : Int)).map fun n => UInt8.ofNat n.toNat) = s.data.toList
  rw [List.map_map]
  exact (List.map_congr_left (g := id) (fun c _ => by simp)).trans (List.map_id _)
set_option maxHeartbeats 400000 in
theorem bytes_dead (base b : Nat) (v : Value) (s : ByteArray) (w : World) (h : Wr w base b v s true) :
    Calls Tryd.prog 80 #[.pointer (some ⟨b, 0, none⟩)] w fun x w' => x = .returned (.tuple #[.string ⟨#[]⟩, .int .i64 1]) ∧ w = w' := by
  have c1 := h.c1
  clear h
  go_enter Tryd.func80, Tryd.ntmps80
  go_wp2
  go_ret2
  exact ⟨rfl, rfl⟩
set_option maxHeartbeats 400000 in
theorem bytes_live (base b : Nat) (v : Value) (s : ByteArray) (w : World) (h : Wr w base b v s false) :
    Calls Tryd.prog 80 #[.pointer (some ⟨b, 0, none⟩)] w fun x w' => x = .returned (.tuple #[.string s, .int .i64 0]) ∧ w = w' := by
  have c0 := h.c0
  have c1 := h.c1
  have hc : (convert 113 9 v).run Tryd.prog w = .ok (.string s) w := by
    rcases h.own.2 with ⟨rfl, hn⟩ | ⟨g, cap, cur, rfl, hg⟩
    · obtain rfl := h.nilv
      exact run_convert_bytes_nil (P := Tryd.prog) w 113 5 Tryd.underlying113 Tryd.underlying5 0 0 9 Tryd.underlying9
    · have hx := run_convert_bytes_arg (P := Tryd.prog) w 113 5 Tryd.underlying113 Tryd.underlying5 g 0 s.size cap (nums s) (nums_length s) (fun i hi => by
        have hl := nums_length s
        rw [Nat.zero_add, h.own.cellAt i (by omega)]
        simp only [Lib.strCells, nums, List.getElem?_map, List.getD_eq_getElem?_getD]
        have hi2 : i < s.data.toList.length := by rw [Array.length_toList]; exact hi
        rw [List.getElem?_eq_getElem hi2]; rfl) 9 Tryd.underlying9
      rw [strOfNums_nums] at hx
      exact hx
  clear h
  go_enter Tryd.func80, Tryd.ntmps80
  go_wp2
  go_ret2
  exact ⟨rfl, rfl⟩
theorem bytes_any (base b : Nat) (v : Value) (s : ByteArray) (failed : Bool) (w : World) (h : Wr w base b v s failed) :
    Calls Tryd.prog 80 #[.pointer (some ⟨b, 0, none⟩)] w fun x w' => x = .returned (.tuple #[.string (if failed then ⟨#[]⟩ else s), .int .i64 (if failed then 1 else 0)]) ∧ w = w' := by
  cases failed with
  | true => exact bytes_dead base b v s w h
  | false => exact bytes_live base b v s w h
end Go.Proofs.YtbbgibekplfacaaDoor.X
/- The writer's Number, Signed, Text; the document's Number, Signed, Text. -/
namespace Go.Proofs.YtbbgibekplfacaaDoor.X
open Go Go.RowKit
/-- Has a number bytes? -/
def okN (n : Int) : Prop := 0 ≤ n ∧ n < 4611686018427387904
instance (n : Int) : Decidable (okN n) := by unfold okN; infer_instance
def okS (n : Int) : Prop := -2305843009213693952 ≤ n ∧ n < 2305843009213693952
instance (n : Int) : Decidable (okS n) := by unfold okS; infer_instance
theorem zig_bd (n : Int) (h : okS n) : 0 ≤ zigS n ∧ zigS n < 4611686018427387904 := by
  unfold okS at h; unfold zigS; split <;> omega
set_option maxHeartbeats 400000 in
theorem wuns_no (base b : Nat) (v : Value) (s : ByteArray) (failed : Bool) (n : Int) (hn : 4611686018427387904 ≤ n) (w : World) (hd : Wd w) (h : Wr w base b v s failed) :
    Calls Tryd.prog 86 #[.pointer (some ⟨b, 0, none⟩), .int .u64 n] w fun x w' => x = .returned (.tuple #[]) ∧ Wr w' base b (.slice none 0 0) ⟨#[]⟩ true ∧ Fr base b w w' := by
  have HB := Lib.hid h
  clear h
  go_enter Tryd.func86, Tryd.ntmps86
  go_wp2_with fail
  refine (putN n hn _ hd).mono ?_
  rintro x w1 ⟨rfl, rfl⟩
  go_wp2_with fail
  refine (wfail_any base b v s failed _ HB.out).mono ?_
  rintro x w1 ⟨rfl, hw, hf⟩
  have HW := Lib.hid hw
  have HF := Lib.hid hf
  clear hw hf
  go_wp2
  first | go_end0 | refine bodyPost_ret (results_none rfl _ _ _) rfl ?_
  exact ⟨rfl, HW.out, HF.out⟩
set_option maxHeartbeats 400000 in
theorem wuns_yes (base b : Nat) (v : Value) (s : ByteArray) (failed : Bool) (n : Int) (hn : okN n) (hsz : s.size + 8 ≤ 140737488355328) (w : World) (hd : Wd w) (h : Wr w base b v s failed) :
    Calls Tryd.prog 86 #[.pointer (some ⟨b, 0, none⟩), .int .u64 n] w fun x w' => x = .returned (.tuple #[]) ∧ (∃ v', Wr w' base b v' (if failed then s else s ++ strOfNums (putS n)) failed) ∧ Fr base b w w' := by
  have HB := Lib.hid h
  have hpl := putS_length n hn.1 hn.2
  have hps : (strOfNums (putS n)).size ≤ 8 := by rw [strOfNums_size]; omega
  have p1 := Lib.hid (fun w h => put_yes n hn.1 hn.2 w h)
  clear h hpl hn
  generalize strOfNums (putS n) = px at *
  generalize hout : (if failed = true then s else s ++ px) = out at *
  have HOUT := Lib.hid hout
  clear hout
  go_enter Tryd.func86, Tryd.ntmps86
  go_wp2_with fail
  refine (p1.out _ hd).mono ?_
  rintro x w1 ⟨rfl, hb⟩
  have HB1 := Lib.hid (HB.out.below hb)
  have HF1 := Lib.hid (Fr.ofBelow (b := b) hb HB.out.hi)
  clear hb HB p1
  go_wp2_with fail
  refine (add_any base b v s px failed (by omega) _ HB1.out).mono ?_
  rintro x w2 ⟨rfl, hw, hf⟩
  rw [HOUT.out] at hw
  have HW := Lib.hid hw
  have HF := Lib.hid (HF1.out.trans hf)
  clear hw hf
  go_wp2
  first | go_end0 | refine bodyPost_ret (results_none rfl _ _ _) rfl ?_
  exact ⟨rfl, HW.out, HF.out⟩
/-- What a writer holds behind a field that has the bytes px, or none. -/
def wS (s : ByteArray) (failed ok : Bool) (px : ByteArray) : ByteArray := if failed then s else if ok then s ++ px else ⟨#[]⟩
theorem wuns_any (base b : Nat) (v : Value) (s : ByteArray) (failed : Bool) (n : Int) (h0 : 0 ≤ n) (hsz : s.size + 8 ≤ 140737488355328) (hemp : failed = true → s = ⟨#[]⟩) (w : World) (hd : Wd w) (h : Wr w base b v s failed) :
    Calls Tryd.prog 86 #[.pointer (some ⟨b, 0, none⟩), .int .u64 n] w fun x w' => x = .returned (.tuple #[]) ∧ (∃ v', Wr w' base b v' (wS s failed (decide (okN n)) (strOfNums (putS n))) (failed || !decide (okN n))) ∧ Fr base b w w' := by
  by_cases hn : okN n
  · rw [decide_eq_true hn, Bool.not_true, Bool.or_false]
    exact wuns_yes base b v s failed n hn hsz w hd h
  · rw [decide_eq_false hn, Bool.not_false, Bool.or_true]
    have hw : wS s failed false (strOfNums (putS n)) = ⟨#[]⟩ := by
      unfold wS
      cases failed with
      | true => rw [if_pos rfl]; exact hemp rfl
      | false => rfl
    rw [hw]
    refine (wuns_no base b v s failed n (by unfold okN at hn; omega) w hd h).mono ?_
    rintro x w1 ⟨rfl, hw, hf⟩
    exact ⟨rfl, ⟨_, hw⟩, hf⟩
set_option maxHeartbeats 400000 in
theorem wnum_any (base b : Nat) (v : Value) (s : ByteArray) (failed : Bool) (n : Int) (n1 : -9223372036854775808 ≤ n) (n2 : n ≤ 9223372036854775807) (hsz : s.size + 8 ≤ 140737488355328) (hemp : failed = true → s = ⟨#[]⟩) (w : World) (hd : Wd w) (h : Wr w base b v s failed) :
    Calls Tryd.prog 78 #[.pointer (some ⟨b, 0, none⟩), .int .i64 n] w fun x w' => x = .returned (.tuple #[]) ∧ (∃ v', Wr w' base b v' (wS s failed (decide (okN n)) (strOfNums (putS n))) (failed || !decide (okN n))) ∧ Fr base b w w' := by
  by_cases hneg : n < 0
  · have e1 : IntKind.u64.wrap n = n + 18446744073709551616 := by rw [IntKind.wrap_u64]; omega
    have HU := wuns_any base b v s failed (n + 18446744073709551616) (by omega) hsz hemp w hd h
    have hk : decide (okN (n + 18446744073709551616)) = false := by rw [decide_eq_false_iff_not]; unfold okN; omega
    have hk2 : decide (okN n) = false := by rw [decide_eq_false_iff_not]; unfold okN; omega
    rw [hk] at HU
    rw [hk2]
    have e2 : wS s failed false (strOfNums (putS n)) = wS s failed false (strOfNums (putS (n + 18446744073709551616))) := rfl
    rw [e2]
    generalize wS s failed false (strOfNums (putS (n + 18446744073709551616))) = out at *
    have HH := Lib.hid HU
    clear HU h
    go_enter Tryd.func78, Tryd.ntmps78
    go_wp2_with fail
    refine HH.out.mono ?_
    rintro x w1 ⟨rfl, hw, hf⟩
    have HW := Lib.hid hw
    have HF := Lib.hid hf
    clear hw hf HH
    go_wp2
    first | go_end0 | refine bodyPost_ret (results_none rfl _ _ _) rfl ?_
    exact ⟨rfl, HW.out, HF.out⟩
  · have HU := wuns_any base b v s failed n (by omega) hsz hemp w hd h
    generalize wS s failed (decide (okN n)) (strOfNums (putS n)) = out at *
    generalize (failed || !decide (okN n)) = fo at *
    have HH := Lib.hid HU
    clear HU h
    go_enter Tryd.func78, Tryd.ntmps78
    go_wp2_with fail
    refine HH.out.mono ?_
    rintro x w1 ⟨rfl, hw, hf⟩
    have HW := Lib.hid hw
    have HF := Lib.hid hf
    clear hw hf HH
    go_wp2
    first | go_end0 | refine bodyPost_ret (results_none rfl _ _ _) rfl ?_
    exact ⟨rfl, HW.out, HF.out⟩
set_option maxHeartbeats 400000 in
theorem wsgn_any (base b : Nat) (v : Value) (s : ByteArray) (failed : Bool) (n : Int) (n1 : -9223372036854775808 ≤ n) (n2 : n ≤ 9223372036854775807) (hsz : s.size + 8 ≤ 140737488355328) (hemp : failed = true → s = ⟨#[]⟩) (w : World) (hd : Wd w) (h : Wr w base b v s failed) :
    Calls Tryd.prog 88 #[.pointer (some ⟨b, 0, none⟩), .int .i64 n] w fun x w' => x = .returned (.tuple #[]) ∧ (∃ v', Wr w' base b v' (wS s failed (decide (okS n)) (strOfNums (putS (zigS n)))) (failed || !decide (okS n))) ∧ Fr base b w w' := by
  by_cases hn : okS n
  · have hz := zig_bd n hn
    have HU := wuns_any base b v s failed (zigS n) hz.1 hsz hemp w hd h
    rw [decide_eq_true (show okN (zigS n) from hz)] at HU
    rw [decide_eq_true hn]
    have hy := Lib.hid (fun w h => zig_yes n hn.1 hn.2 w h)
    generalize wS s failed true (strOfNums (putS (zigS n))) = out at *
    generalize (failed || !true) = fo at *
    generalize zigS n = z at *
    have HH := Lib.hid HU
    clear HU h hn
    go_enter Tryd.func88, Tryd.ntmps88
    go_wp2_with fail
    refine (hy.out _ hd).mono ?_
    rintro x w1 ⟨rfl, rfl⟩
    go_wp2_with fail
    refine HH.out.mono ?_
    rintro x w1 ⟨rfl, hw, hf⟩
    have HW := Lib.hid hw
    have HF := Lib.hid hf
    clear hw hf HH
    go_wp2
    first | go_end0 | refine bodyPost_ret (results_none rfl _ _ _) rfl ?_
    exact ⟨rfl, HW.out, HF.out⟩
  · rw [decide_eq_false hn, Bool.not_false, Bool.or_true]
    have hw : wS s failed false (strOfNums (putS (zigS n))) = ⟨#[]⟩ := by
      unfold wS
      cases failed with
      | true => rw [if_pos rfl]; exact hemp rfl
      | false => rfl
    rw [hw]
    have hno := Lib.hid (fun w h => zig_no n n1 n2 (by unfold okS at hn; omega) w h)
    have HB := Lib.hid h
    clear h hw hn
    go_enter Tryd.func88, Tryd.ntmps88
    go_wp2_with fail
    refine (hno.out _ hd).mono ?_
    rintro x w1 ⟨rfl, rfl⟩
    go_wp2_with fail
    refine (wfail_any base b v s failed _ HB.out).mono ?_
    rintro x w1 ⟨rfl, hw, hf⟩
    have HW := Lib.hid hw
    have HF := Lib.hid hf
    clear hw hf
    go_wp2
    first | go_end0 | refine bodyPost_ret (results_none rfl _ _ _) rfl ?_
    exact ⟨rfl, ⟨_, HW.out⟩, HF.out⟩
set_option maxHeartbeats 400000 in
theorem wtxt_any (base b : Nat) (v : Value) (s t : ByteArray) (failed : Bool) (ht : t.size ≤ 1000000) (hsz : s.size + t.size + 8 ≤ 140737488355328) (hemp : failed = true → s = ⟨#[]⟩) (w : World) (hd : Wd w) (h : Wr w base b v s failed) :
    Calls Tryd.prog 87 #[.pointer (some ⟨b, 0, none⟩), .string t] w fun x w' => x = .returned (.tuple #[]) ∧ (∃ v', Wr w' base b v' (wS s failed true (strOfNums (putS t.size) ++ t)) failed) ∧ Fr base b w w' := by
  have hok : okN (t.size : Int) := by unfold okN; omega
  have HU := wnum_any base b v s failed (t.size : Int) (by omega) (by omega) (by omega) hemp w hd h
  rw [decide_eq_true hok, Bool.not_true, Bool.or_false] at HU
  have hpl := putS_length (t.size : Int) hok.1 hok.2
  have hps : (strOfNums (putS (t.size : Int))).size ≤ 8 := by rw [strOfNums_size]; omega
  have hsz1 : (wS s failed true (strOfNums (putS (t.size : Int)))).size + t.size ≤ 140737488355328 := by
    unfold wS
    cases failed with
    | true => rw [if_pos rfl]; omega
    | false => rw [if_neg (by simp), if_pos rfl, ByteArray.size_append]; omega
  have HOUT : Hid ((if failed then wS s failed true (strOfNums (putS (t.size : Int))) else wS s failed true (strOfNums (putS (t.size : Int))) ++ t) = wS s failed true (strOfNums (putS (t.size : Int)) ++ t)) := by
    show (if failed then wS s failed true (strOfNums (putS (t.size : Int))) else wS s failed true (strOfNums (putS (t.size : Int))) ++ t) = wS s failed true (strOfNums (putS (t.size : Int)) ++ t)
    cases failed with
    | true => rfl
    | false => simp [wS, ByteArray.append_assoc]
  generalize wS s failed true (strOfNums (putS (t.size : Int)) ++ t) = out at *
  generalize wS s failed true (strOfNums (putS (t.size : Int))) = mid at *
  have HH := Lib.hid HU
  clear HU h hok hpl hps
  go_enter Tryd.func87, Tryd.ntmps87
  go_wp2_with fail
  refine HH.out.mono ?_
  rintro x w1 ⟨rfl, ⟨v1, hw⟩, hf⟩
  have HW := Lib.hid hw
  have HF := Lib.hid hf
  clear hw hf HH
  go_wp2_with fail
  refine (add_any base b v1 mid t failed hsz1 _ HW.out).mono ?_
  rintro x w2 ⟨rfl, hw, hf⟩
  rw [HOUT.out] at hw
  have HW2 := Lib.hid hw
  have HF2 := Lib.hid (HF.out.trans hf)
  clear hw hf
  go_wp2
  first | go_end0 | refine bodyPost_ret (results_none rfl _ _ _) rfl ?_
  exact ⟨rfl, HW2.out, HF2.out⟩
end Go.Proofs.YtbbgibekplfacaaDoor.X
/- The document's Number, Signed, Text; a new writer. -/
namespace Go.Proofs.YtbbgibekplfacaaDoor.X
open Go Go.RowKit
/-- A field's bytes: none, if it has none. -/
def pxN (n : Int) : ByteArray := if okN n then strOfNums (putS n) else ⟨#[]⟩
def pxS (n : Int) : ByteArray := if okS n then strOfNums (putS (zigS n)) else ⟨#[]⟩
def pxT (t : ByteArray) : ByteArray := strOfNums (putS t.size) ++ t
theorem pxN_size (n : Int) : (pxN n).size ≤ 8 := by
  unfold pxN
  split
  · rename_i h
    have := putS_length n h.1 h.2
    rw [strOfNums_size]; omega
  · show 0 ≤ 8; omega
theorem pxS_size (n : Int) : (pxS n).size ≤ 8 := by
  unfold pxS
  split
  · rename_i h
    have hz := zig_bd n h
    have := putS_length _ hz.1 hz.2
    rw [strOfNums_size]; omega
  · show 0 ≤ 8; omega
theorem pxT_size (t : ByteArray) (h : t.size ≤ 1000000) : (pxT t).size ≤ t.size + 8 := by
  unfold pxT
  have := putS_length (t.size : Int) (by omega) (by omega)
  rw [ByteArray.size_append, strOfNums_size]; omega
theorem wS_N (s : ByteArray) (failed : Bool) (n : Int) : wS s failed (decide (okN n)) (strOfNums (putS n)) = wS s failed (decide (okN n)) (pxN n) := by
  unfold pxN
  split
  · rfl
  · rename_i h; rw [decide_eq_false h]; rfl
theorem wS_S (s : ByteArray) (failed : Bool) (n : Int) : wS s failed (decide (okS n)) (strOfNums (putS (zigS n))) = wS s failed (decide (okS n)) (pxS n) := by
  unfold pxS
  split
  · rfl
  · rename_i h; rw [decide_eq_false h]; rfl
theorem wr_new (w : World) : Wr (w.alloc (.cells #[.slice none 0 0, .bool false] 117)) (w.heap.size + 1) w.heap.size (.slice none 0 0) ⟨#[]⟩ false :=
  ⟨by omega, by simp, heap_alloc_new w _, World.ownsRow_nil _ _ _ _⟩
set_option maxHeartbeats 400000 in
theorem rfN_neg (n : Int) (hn : n < 0) (w : World) : Calls Tryd.prog 82 #[.int .i64 n] w fun x w' => x = .returned (.tuple #[.string ⟨#[]⟩, .bool false]) ∧ w = w' := by
  go_enter Tryd.func82, Tryd.ntmps82
  go_wp2
  go_ret2
  exact ⟨rfl, rfl⟩
set_option maxHeartbeats 400000 in
theorem rfN_big (n : Int) (hn : 4611686018427387904 ≤ n) (n2 : n ≤ 9223372036854775807) (w : World) : Calls Tryd.prog 82 #[.int .i64 n] w fun x w' => x = .returned (.tuple #[.string ⟨#[]⟩, .bool false]) ∧ w = w' := by
  go_enter Tryd.func82, Tryd.ntmps82
  go_wp2_with fail
  refine (rputN n hn _).mono ?_
  rintro x w1 ⟨rfl, rfl⟩
  go_wp2
  go_ret2
  exact ⟨rfl, rfl⟩
set_option maxHeartbeats 400000 in
theorem rfN_yes (n : Int) (hn : okN n) (w : World) : Calls Tryd.prog 82 #[.int .i64 n] w fun x w' => x = .returned (.tuple #[.string (strOfNums (putS n)), .bool true]) ∧ Below w.heap.size w w' := by
  have h0 := hn.1
  have h4 := hn.2
  have p1 := Lib.hid (fun w => rput_yes n hn.1 hn.2 w)
  generalize strOfNums (putS n) = px at *
  clear hn
  go_enter Tryd.func82, Tryd.ntmps82
  go_wp2_with fail
  refine (p1.out _).mono ?_
  rintro x w1 ⟨rfl, hb⟩
  have HB := Lib.hid hb
  clear hb
  go_wp2
  go_ret2
  exact ⟨rfl, HB.out⟩
theorem rfN_any (n : Int) (n2 : n ≤ 9223372036854775807) (w : World) : Calls Tryd.prog 82 #[.int .i64 n] w fun x w' => x = .returned (.tuple #[.string (pxN n), .bool (decide (okN n))]) ∧ Below w.heap.size w w' := by
  unfold pxN
  by_cases hn : okN n
  · rw [if_pos hn, decide_eq_true hn]
    exact rfN_yes n hn w
  · rw [if_neg hn, decide_eq_false hn]
    by_cases hg : n < 0
    · refine (rfN_neg n hg w).mono ?_
      rintro x w1 ⟨rfl, rfl⟩
      exact ⟨rfl, Below.refl _ _⟩
    · refine (rfN_big n (by unfold okN at hn; omega) n2 w).mono ?_
      rintro x w1 ⟨rfl, rfl⟩
      exact ⟨rfl, Below.refl _ _⟩
set_option maxHeartbeats 400000 in
theorem rfS_yes (n : Int) (hn : okS n) (w : World) : Calls Tryd.prog 91 #[.int .i64 n] w fun x w' => x = .returned (.tuple #[.string (strOfNums (putS (zigS n))), .bool true]) ∧ Below w.heap.size w w' := by
  have hz := zig_bd n hn
  have p0 := Lib.hid (fun w => rzig_yes n hn.1 hn.2 w)
  have p1 := Lib.hid (fun w => rput_yes (zigS n) hz.1 hz.2 w)
  generalize strOfNums (putS (zigS n)) = px at *
  generalize zigS n = z at *
  clear hn
  go_enter Tryd.func91, Tryd.ntmps91
  go_wp2_with fail
  refine (p0.out _).mono ?_
  rintro x w1 ⟨rfl, rfl⟩
  go_wp2_with fail
  refine (p1.out _).mono ?_
  rintro x w1 ⟨rfl, hb⟩
  have HB := Lib.hid hb
  clear hb
  go_wp2
  go_ret2
  exact ⟨rfl, HB.out⟩
set_option maxHeartbeats 400000 in
theorem rfS_no (n : Int) (hn : ¬ okS n) (w : World) : Calls Tryd.prog 91 #[.int .i64 n] w fun x w' => x = .returned (.tuple #[.string ⟨#[]⟩, .bool false]) ∧ w = w' := by
  have p0 := Lib.hid (fun w => rzig_no n (by unfold okS at hn; omega) w)
  clear hn
  go_enter Tryd.func91, Tryd.ntmps91
  go_wp2_with fail
  refine (p0.out _).mono ?_
  rintro x w1 ⟨rfl, rfl⟩
  go_wp2
  go_ret2
  exact ⟨rfl, rfl⟩
theorem rfS_any (n : Int) (w : World) : Calls Tryd.prog 91 #[.int .i64 n] w fun x w' => x = .returned (.tuple #[.string (pxS n), .bool (decide (okS n))]) ∧ Below w.heap.size w w' := by
  unfold pxS
  by_cases hn : okS n
  · rw [if_pos hn, decide_eq_true hn]
    exact rfS_yes n hn w
  · rw [if_neg hn, decide_eq_false hn]
    refine (rfS_no n hn w).mono ?_
    rintro x w1 ⟨rfl, rfl⟩
    exact ⟨rfl, Below.refl _ _⟩
set_option maxHeartbeats 400000 in
theorem rfT_any (t : ByteArray) (ht : t.size ≤ 1000000) (w : World) : Calls Tryd.prog 90 #[.string t] w fun x w' => x = .returned (.string (pxT t)) ∧ Below w.heap.size w w' := by
  have hok : okN (t.size : Int) := by unfold okN; omega
  have p1 := Lib.hid (fun w => rfN_yes (t.size : Int) hok w)
  have hpl := putS_length (t.size : Int) hok.1 hok.2
  have hps : (strOfNums (putS (t.size : Int))).size ≤ 8 := by rw [strOfNums_size]; omega
  unfold pxT
  clear hpl
  generalize strOfNums (putS (t.size : Int)) = px at *
  clear hok
  go_enter Tryd.func90, Tryd.ntmps90
  go_wp2_with fail
  refine (p1.out _).mono ?_
  rintro x w1 ⟨rfl, hb⟩
  have HB := Lib.hid hb
  clear hb
  go_wp2
  go_ret
  exact ⟨rfl, HB.out⟩
end Go.Proofs.YtbbgibekplfacaaDoor.X
/- Plain mathematics: what is read of fields that were put. -/
namespace Go.Proofs.YtbbgibekplfacaaDoor.X
open Go
theorem zag_zig (n : Int) : zagS (zigS n) = n := by
  unfold zagS zigS
  split <;> split <;> omega
theorem emp_app (s : ByteArray) : (⟨#[]⟩ : ByteArray) ++ s = s := by
  apply ByteArray.ext
  simp
theorem app_empty (s : ByteArray) : s ++ (⟨#[]⟩ : ByteArray) = s := by
  apply ByteArray.ext
  simp
theorem rd_raw (x y : ByteArray) (n : Int) (h : okN n) : rawV (x ++ strOfNums (putS n) ++ y) x.size 0 = n ∧ rawA (x ++ strOfNums (putS n) ++ y) x.size 0 = x.size + (strOfNums (putS n)).size ∧ rawE (x ++ strOfNums (putS n) ++ y) x.size 0 = 0 := by
  refine raw_ok _ _ n _ ?_
  rw [getS_mid n h.1 h.2 x y, strOfNums_size, Int.natCast_add]
theorem num_of (B : ByteArray) (At : Nat) (most n : Int) (hA : At ≤ B.size) (hV : rawV B At 0 = n) (hE : rawE B At 0 = 0) :
    (n ≤ bd most → numV B At 0 most = n ∧ numE B At 0 most = 0) ∧ (bd most < n → numV B At 0 most = 0 ∧ numE B At 0 most = 1) := by
  rcases num3 B At 0 most hA with ⟨h1, _, _, _⟩ | ⟨h1, h2, h3, h4⟩ | ⟨h1, h2, h3, h4⟩
  · exact absurd hE h1
  · rw [hV] at h2
    exact ⟨fun hx => absurd hx (by omega), fun _ => ⟨h3, h4⟩⟩
  · rw [hV] at h2 h3
    exact ⟨fun _ => ⟨h3, h4⟩, fun hx => absurd hx (by omega)⟩
theorem extract_mid (x t y : ByteArray) : (x ++ t ++ y).extract x.size (x.size + t.size) = t := by
  apply eq_of_byt
  · simp only [ByteArray.size_extract, ByteArray.size_append]; omega
  · intro i hi
    have hi' : i < t.size := by simp only [ByteArray.size_extract, ByteArray.size_append] at hi; omega
    rw [byt_extract _ _ _ _ (by simp only [ByteArray.size_append]; omega) (by omega), byt_left _ _ _ (by simp only [ByteArray.size_append]; omega), byt_right _ _ _ hi']
theorem rd_txt (x y t : ByteArray) (most : Int) (ht : t.size ≤ 1000000) (hb : (t.size : Int) ≤ bd most) :
    txtV (x ++ pxT t ++ y) x.size 0 most = t ∧ txtA (x ++ pxT t ++ y) x.size 0 most = x.size + (pxT t).size ∧ txtE (x ++ pxT t ++ y) x.size 0 most = 0 := by
  have hok : okN (t.size : Int) := by unfold okN; omega
  have e : x ++ pxT t ++ y = x ++ strOfNums (putS t.size) ++ (t ++ y) := by unfold pxT; simp only [ByteArray.append_assoc]
  have e2 : x ++ pxT t ++ y = (x ++ strOfNums (putS t.size)) ++ t ++ y := by unfold pxT; simp only [ByteArray.append_assoc]
  have hA : x.size ≤ (x ++ pxT t ++ y).size := by simp only [ByteArray.size_append]; omega
  have hs : (x ++ pxT t ++ y).size = x.size + (strOfNums (putS t.size)).size + t.size + y.size := by rw [e2]; simp only [ByteArray.size_append]
  have hp : (pxT t).size = (strOfNums (putS t.size)).size + t.size := by unfold pxT; rw [ByteArray.size_append]
  obtain ⟨r1, r2, r3⟩ := rd_raw x (t ++ y) (t.size : Int) hok
  rw [← e] at r1 r2 r3
  obtain ⟨n1, n2⟩ := (num_of _ x.size most _ hA r1 r3).1 hb
  rcases txt3 (x ++ pxT t ++ y) x.size 0 most hA with ⟨h1, _⟩ | ⟨_, h2, _⟩ | ⟨_, k, h2, h3, h4, h5, h6⟩
  · exact absurd n2 h1
  · rw [n1, r2, hs] at h2
    omega
  · have hk : k = t.size := by rw [n1] at h2; omega
    subst hk
    refine ⟨?_, ?_, h4⟩
    · rw [h6, r2, e2]
      have := extract_mid (x ++ strOfNums (putS t.size)) t y
      rw [ByteArray.size_append] at this
      exact this
    · rw [h5, r2, hp]; omega
theorem end_all (B : ByteArray) : endE B B.size 0 = 0 := by
  unfold endE
  rw [if_neg (by simp), if_neg (by omega)]
end Go.Proofs.YtbbgibekplfacaaDoor.X
