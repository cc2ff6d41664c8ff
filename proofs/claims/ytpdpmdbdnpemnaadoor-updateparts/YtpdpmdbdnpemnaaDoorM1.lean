/- The writer: its block, fail, add. -/
import Derived.Test.YtpdpmdbdnpemnaaDoorR4
import Derived.Lib.AppendStr
namespace Go.Proofs.YtpdpmdbdnpemnaaDoor
open Go Go.RowKit
/-- In block b lies a writer that has gathered those bytes in the slice v, its row from base on. -/
structure Wr (w : World) (base b : Nat) (v : Value) (s : ByteArray) (failed : Bool) : Prop where
  lo : b < base
  hi : base ≤ w.heap.size
  blk : w.heap[b]? = some (.cells #[v, .bool failed] 43 (0, 0))
  own : w.ownsRow base 5 1 v s.size (Lib.strCells s)
/-- What a writer's call leaves: the blocks below base but its own one, and all that are no rows of bytes. -/
structure Fr (base b : Nat) (w w' : World) : Prop where
  os : w'.os = w.os
  tape : w'.tape = w.tape
  output : w'.output = w.output
  size : w.heap.size ≤ w'.heap.size
  low : ∀ k, k < base → k ≠ b → w'.heap[k]? = w.heap[k]?
  typ : ∀ k c t fr, w.heap[k]? = some (.cells c t fr) → t ≠ 5 → k ≠ b → w'.heap[k]? = w.heap[k]?
theorem Fr.refl (base b : Nat) (w : World) : Fr base b w w := ⟨rfl, rfl, rfl, Nat.le_refl _, fun _ _ _ => rfl, fun _ _ _ _ _ _ _ => rfl⟩
theorem Fr.trans {base b : Nat} {w1 w2 w3 : World} (h : Fr base b w1 w2) (k : Fr base b w2 w3) : Fr base b w1 w3 :=
  ⟨k.os.trans h.os, k.tape.trans h.tape, k.output.trans h.output, Nat.le_trans h.size k.size, fun i hi hb => (k.low i hi hb).trans (h.low i hi hb),
    fun i c t fr hc ht hb => by
      have h1 := h.typ i c t fr hc ht hb
      exact (k.typ i c t fr (h1.trans hc) ht hb).trans h1⟩
theorem Fr.ofBelow {base b : Nat} {w w' : World} (h : Below w.heap.size w w') (hb : base ≤ w.heap.size) : Fr base b w w' :=
  ⟨h.os, h.tape, h.output, h.size, fun k hk _ => h.block k (by omega), fun k c t fr hc _ _ => h.block k (Array.getElem?_eq_some_iff.1 hc).1⟩
theorem Fr.set {base b : Nat} (w : World) (i : Nat) (v : Value) : Fr base b w (w.setCell ⟨b, i, none⟩ v) :=
  ⟨rfl, rfl, rfl, by simp [World.setCell], fun k _ hb => Below.heap_setCell _ _ _ _ hb, fun k _ _ _ _ _ hb => Below.heap_setCell _ _ _ _ hb⟩
theorem Fr.ofRow {base b : Nat} {w w' : World} {v : Value} {n : Nat} {xs : List Value} (hg : w.grownBy w' v.ownBlock) (ho : w.ownsRow base 5 1 v n xs) (hb : base ≤ w.heap.size) : Fr base b w w' := by
  refine ⟨hg.os, hg.tape, hg.output, hg.size, fun k hk _ => hg.block k (by omega) ?_, fun k c t fr hc ht _ => hg.block k (Array.getElem?_eq_some_iff.1 hc).1 ?_⟩
  · intro e
    have := (ho.lt k e.symm).1
    omega
  · intro e
    rcases ho.2 with ⟨rfl, _⟩ | ⟨g, cap, cur, rfl, _, hgg, _⟩
    · simp [Value.ownBlock] at e
    · simp [Value.ownBlock] at e
      subst e
      rw [hgg] at hc
      simp at hc
      exact ht hc.2.1.symm
theorem Fr.below {B base b : Nat} {w0 w w' : World} (h : Below B w0 w) (k : Fr base b w w') (h1 : B ≤ b) (h2 : b < base) : Below B w0 w' :=
  h.trans ⟨k.os, k.tape, k.output, k.size, fun i hi => k.low i (by omega) (by omega)⟩
theorem Wd.fr {base b : Nat} {w w' : World} (h : Wd w) (k : Fr base b w w') (h0 : 0 < b) (h1 : b < base) : Wd w' := by
  have hb : Below 1 w w' := ⟨k.os, k.tape, k.output, k.size, fun i hi => k.low i (by omega) (by omega)⟩
  exact ⟨(hb.cell (by show 0 < 1; omega)).trans h.c0, (hb.cell (by show 0 < 1; omega)).trans h.c1, (hb.cell (by show 0 < 1; omega)).trans h.c2, (hb.cell (by show 0 < 1; omega)).trans h.c3, Nat.lt_of_lt_of_le h.pos k.size⟩
theorem Wr.c0 {w base b v s failed} (h : Wr w base b v s failed) : w.cell? ⟨b, 0, none⟩ = some v := by have := h.blk; simp [World.cell?, this]
theorem Wr.c1 {w base b v s failed} (h : Wr w base b v s failed) : w.cell? ⟨b, 1, none⟩ = some (.bool failed) := by have := h.blk; simp [World.cell?, this]
theorem Wr.f0 {w base b v s failed} (h : Wr w base b v s failed) (i : Nat) : w.frozen? ⟨b, i, none⟩ = false := by have := h.blk; simp [World.frozen?, this]
theorem Wr.below {w w' : World} {base b v s failed} (h : Wr w base b v s failed) (k : Below w.heap.size w w') : Wr w' base b v s failed :=
  ⟨h.lo, Nat.le_trans h.hi k.size, (k.block b (Nat.lt_of_lt_of_le h.lo h.hi)).trans h.blk, h.own.kept (row := none) (grown_below k) (by cases hv : v.ownBlock <;> simp)⟩
theorem Wr.nilv {w base b s failed} (h : Wr w base b (.slice none 0 0) s failed) : s = ⟨#[]⟩ := by
  have h0 : s.size = 0 := by
    rcases h.own.2 with ⟨_, hn⟩ | ⟨g, cap, cur, hv, _⟩
    · exact hn
    · simp at hv
  apply eq_of_byt
  · rw [h0]; rfl
  · intro i hi; omega
theorem strCells_append (a c : ByteArray) : Lib.strCells (a ++ c) = Lib.strCells a ++ Lib.strCells c := by
  simp [Lib.strCells]
set_option maxHeartbeats 400000 in
theorem wfail_any (base b : Nat) (v : Value) (s : ByteArray) (failed : Bool) (w : World) (h : Wr w base b v s failed) :
    Calls Tryd.prog 48 #[.pointer (some ⟨b, 0, none⟩)] w fun x w' => x = .returned (.tuple #[]) ∧ Wr w' base b (.slice none 0 0) ⟨#[]⟩ true ∧ Fr base b w w' := by
  have c0 := h.c0
  have c1 := h.c1
  have f0 := h.f0 0
  have f1 := h.f0 1
  have HB := Lib.hid h
  clear h
  go_enter Tryd.func48, Tryd.ntmps48
  go_wp2
  first | go_end0 | refine bodyPost_ret (results_none rfl _ _ _) rfl ?_
  refine ⟨rfl, ⟨HB.out.lo, ?_, ?_, World.ownsRow_nil _ _ _ _⟩, (Fr.set _ _ _).trans (Fr.set _ _ _)⟩
  · have := HB.out.hi; simp [World.setCell]; omega
  · have := HB.out.blk
    simp [World.setCell, Array.getElem?_modify, this]
set_option maxHeartbeats 400000 in
theorem add_dead (base b : Nat) (v : Value) (s t : ByteArray) (w : World) (h : Wr w base b v s true) :
    Calls Tryd.prog 46 #[.pointer (some ⟨b, 0, none⟩), .string t] w fun x w' => x = .returned (.tuple #[]) ∧ w = w' := by
  have c1 := h.c1
  clear h
  go_enter Tryd.func46, Tryd.ntmps46
  go_wp2
  first | go_end0 | refine bodyPost_ret (results_none rfl _ _ _) rfl ?_
  exact ⟨rfl, rfl⟩
set_option maxHeartbeats 400000 in
theorem add_live (base b : Nat) (v : Value) (s t : ByteArray) (hsz : s.size + t.size ≤ 140737488355328) (w : World) (h : Wr w base b v s false) :
    Calls Tryd.prog 46 #[.pointer (some ⟨b, 0, none⟩), .string t] w fun x w' => x = .returned (.tuple #[]) ∧ (∃ v', Wr w' base b v' (s ++ t) false) ∧ Fr base b w w' := by
  obtain ⟨i0, hi, hz0, hz1, hz2⟩ := info_parts info5
  have c0 := h.c0
  have c1 := h.c1
  have hb := h.lo
  have HB := Lib.hid h
  clear h
  go_enter Tryd.func46, Tryd.ntmps46
  go_wp2_with (at_builtin; refine Lib.wpList_append_own_string _ rfl _ _ 39 9 rfl base 5 i0 Tryd.underlying39 Tryd.underlying9 hi hz0 hz1 hz2 v s.size (Lib.strCells s) rfl HB.out.own t rfl (by unfold maxLen; omega) (by omega) HB.out.hi ?_)
  intro v' w1 hown hgrow _
  have hfr : Fr base b w w1 := Fr.ofRow hgrow HB.out.own HB.out.hi
  have hblk : w1.heap[b]? = some (.cells #[v, .bool false] 43 (0, 0)) := (hgrow.block b (Nat.lt_of_lt_of_le HB.out.lo HB.out.hi) (fun e => by have := (HB.out.own.lt b e.symm).1; omega)).trans HB.out.blk
  have d0 : w1.cell? ⟨b, 0, none⟩ = some v := by simp [World.cell?, hblk]
  have f0 : w1.frozen? ⟨b, 0, none⟩ = false := by simp [World.frozen?, hblk]
  have hhi := Nat.le_trans HB.out.hi hfr.size
  obtain ⟨a', n', c', rfl⟩ : ∃ a' n' c', v' = .slice a' n' c' := by
    rcases hown.2 with ⟨e, _⟩ | ⟨g, cap, cur, e, _⟩
    · exact ⟨_, _, _, e⟩
    · exact ⟨_, _, _, e⟩
  have HF := Lib.hid hfr
  have HO := Lib.hid hown
  have HK := Lib.hid hblk
  clear hfr hown hgrow c0 c1 hblk
  go_wp2
  first | go_end0 | refine bodyPost_ret (results_none rfl _ _ _) rfl ?_
  refine ⟨rfl, ⟨.slice a' n' c', hb, ?_, ?_, ?_⟩, HF.out.trans (Fr.set _ _ _)⟩
  · simp [World.setCell]; omega
  · have := HK.out
    simp [World.setCell, Array.getElem?_modify, this]
  · rw [ByteArray.size_append, strCells_append]
    exact ownsRow_setCell_below HO.out hb _
/-- What a writer holds behind a text: more, unless it failed. -/
theorem add_any (base b : Nat) (v : Value) (s t : ByteArray) (failed : Bool) (hsz : s.size + t.size ≤ 140737488355328) (w : World) (h : Wr w base b v s failed) :
    Calls Tryd.prog 46 #[.pointer (some ⟨b, 0, none⟩), .string t] w fun x w' => x = .returned (.tuple #[]) ∧ (∃ v', Wr w' base b v' (if failed then s else s ++ t) failed) ∧ Fr base b w w' := by
  cases failed with
  | true =>
    refine (add_dead base b v s t w h).mono ?_
    rintro x w1 ⟨rfl, rfl⟩
    exact ⟨rfl, ⟨v, h⟩, Fr.refl _ _ _⟩
  | false => exact add_live base b v s t hsz w h
def nums (s : ByteArray) : List Int := s.data.toList.map fun c => (c.toNat : Int)
theorem nums_length (s : ByteArray) : (nums s).length = s.size := by simp [nums]
theorem strOfNums_nums (s : ByteArray) : strOfNums (nums s) = s := by
  apply ByteArray.ext
  apply Array.ext'
  show ((s.data.toList.map fun c => (c.toNat : Int)).map fun n => UInt8.ofNat n.toNat) = s.data.toList
  rw [List.map_map]
  exact (List.map_congr_left (g := id) (fun c _ => by simp)).trans (List.map_id _)
set_option maxHeartbeats 400000 in
theorem bytes_dead (base b : Nat) (v : Value) (s : ByteArray) (w : World) (h : Wr w base b v s true) :
    Calls Tryd.prog 18 #[.pointer (some ⟨b, 0, none⟩)] w fun x w' => x = .returned (.tuple #[.string ⟨#[]⟩, .int .i64 1]) ∧ w = w' := by
  have c1 := h.c1
  clear h
  go_enter Tryd.func18, Tryd.ntmps18
  go_wp2
  go_ret2
  exact ⟨rfl, rfl⟩
set_option maxHeartbeats 400000 in
theorem bytes_live (base b : Nat) (v : Value) (s : ByteArray) (w : World) (h : Wr w base b v s false) :
    Calls Tryd.prog 18 #[.pointer (some ⟨b, 0, none⟩)] w fun x w' => x = .returned (.tuple #[.string s, .int .i64 0]) ∧ w = w' := by
  have c0 := h.c0
  have c1 := h.c1
  have hc : (convert 39 9 v).run Tryd.prog w = .ok (.string s) w := by
    rcases h.own.2 with ⟨rfl, hn⟩ | ⟨g, cap, cur, rfl, hg⟩
    · obtain rfl := h.nilv
      exact run_convert_bytes_nil (P := Tryd.prog) w 39 5 Tryd.underlying39 Tryd.underlying5 0 0 9 Tryd.underlying9
    · have hx := run_convert_bytes_arg (P := Tryd.prog) w 39 5 Tryd.underlying39 Tryd.underlying5 g 0 s.size cap (nums s) (nums_length s) (fun i hi => by
        have hl := nums_length s
        rw [Nat.zero_add, h.own.cellAt i (by omega)]
        simp only [Lib.strCells, nums, List.getElem?_map, List.getD_eq_getElem?_getD]
        have hi2 : i < s.data.toList.length := by rw [Array.length_toList]; exact hi
        rw [List.getElem?_eq_getElem hi2]; rfl) 9 Tryd.underlying9
      rw [strOfNums_nums] at hx
      exact hx
  clear h
  go_enter Tryd.func18, Tryd.ntmps18
  go_wp2
  go_ret2
  exact ⟨rfl, rfl⟩
theorem bytes_any (base b : Nat) (v : Value) (s : ByteArray) (failed : Bool) (w : World) (h : Wr w base b v s failed) :
    Calls Tryd.prog 18 #[.pointer (some ⟨b, 0, none⟩)] w fun x w' => x = .returned (.tuple #[.string (if failed then ⟨#[]⟩ else s), .int .i64 (if failed then 1 else 0)]) ∧ w = w' := by
  cases failed with
  | true => exact bytes_dead base b v s w h
  | false => exact bytes_live base b v s w h
end Go.Proofs.YtpdpmdbdnpemnaaDoor
