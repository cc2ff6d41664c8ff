/- strings.Clone, Read, and the reader's Text. -/
import Derived.Test.YtcknklodnfabpaaDoorB1
import Derived.Test.YtcknklodnfabpaaDoorSH
namespace Go.Proofs.YtcknklodnfabpaaDoor
open Go Go.RowKit
set_option maxHeartbeats 400000 in
theorem clone_any (s : ByteArray) (hs : s.size ≤ 140737488355328) (w : World) : Calls Tryd.prog 40 #[.string s] w fun x w' => x = .returned (.string s) ∧ Below w.heap.size w w' := by
  go_enter Tryd.func40, Tryd.ntmps40
  go_wp2_with fail
  refine (liteClone s hs _).mono ?_
  rintro x w1 ⟨rfl, hb⟩
  have HB := Lib.hid hb
  clear hb
  go_wp2
  go_ret
  exact ⟨rfl, HB.out⟩
set_option maxHeartbeats 400000 in
theorem read_any (s : ByteArray) (hs : s.size ≤ 140737488355328) (w : World) : Calls Tryd.prog 32 #[.string s] w fun x w' => ∃ b, w.heap.size ≤ b ∧ x = .returned (.pointer (some ⟨b, 0, none⟩)) ∧ Rd w' b (rst s 0 0) 0 ∧ Below w.heap.size w w' := by
  rw [rst_start]
  go_enter Tryd.func32, Tryd.ntmps32
  go_wp2_with fail
  refine (clone_any s hs _).mono ?_
  rintro x w1 ⟨rfl, hb⟩
  have hsz := hb.size
  have HB := Lib.hid hb
  clear hb
  go_wp2
  go_ret
  exact ⟨_, hsz, rfl, heap_alloc_new _ _, HB.out.alloc hsz _⟩
set_option maxHeartbeats 400000 in
theorem txt_no (B : ByteArray) (At : Nat) (E most : Int) (b : Nat) (hA : At ≤ B.size) (hm : B.size ≤ maxLen) (m1 : -9223372036854775808 ≤ most) (m2 : most ≤ 9223372036854775807) (w : World) (hd : Wd w) (h : Rd w b (rst B At E) E)
    (h0 : numE B At E most = 0) (h1 : (B.size : Int) - rawA B At E < numV B At E most) :
    Calls Tryd.prog 69 #[.pointer (some ⟨b, 0, none⟩), .int .i64 most] w fun x w' => x = .returned (.string ⟨#[]⟩) ∧ Rd w' b ⟨#[]⟩ 2 ∧ w.grownBy w' (some b) := by
  have HU := Lib.hid (num_any B At E most b hA hm m1 m2 w hd h)
  have hvb := numV_bd B At E most hA
  have hAA := rawA_le B At E hA
  have hsz := rst_len B (rawA B At E) hAA
  rw [h0, rst_live] at HU
  generalize numV B At E most = V at *
  generalize B.extract (rawA B At E) B.size = R at *
  generalize rawA B At E = A at *
  clear h h0
  go_enter Tryd.func69, Tryd.ntmps69
  go_wp2_with fail
  refine HU.out.mono ?_
  rintro x w1 ⟨rfl, hr, hgr⟩
  have c0 := hr.c0
  have HR := Lib.hid hr
  have HGR := Lib.hid hgr
  clear hr hgr HU
  go_wp2_with fail
  refine (fail_yes b _ 2 (by decide) _ HR.out).mono ?_
  rintro x w3 ⟨rfl, hr, hgr⟩
  have HR3 := Lib.hid hr
  have HG3 := Lib.hid (grown_trans HGR.out hgr)
  clear hr hgr c0
  go_wp2
  go_ret
  exact ⟨rfl, HR3.out, HG3.out⟩
set_option maxHeartbeats 400000 in
theorem txt_in (b n : Nat) (most E : Int) (R : ByteArray) (hn : n ≤ R.size) (hm : R.size ≤ 140737488355328) (w : World)
    (HU : Hid (Calls Tryd.prog 51 #[.pointer (some ⟨b, 0, none⟩), .int .i64 most] w fun x w' => x = .returned (.int .i64 (n : Int)) ∧ Rd w' b R E ∧ w.grownBy w' (some b))) :
    Calls Tryd.prog 69 #[.pointer (some ⟨b, 0, none⟩), .int .i64 most] w fun x w' => x = .returned (.string (R.extract 0 n)) ∧ Rd w' b (R.extract n R.size) E ∧ w.grownBy w' (some b) := by
  go_enter Tryd.func69, Tryd.ntmps69
  go_wp2_with fail
  refine HU.out.mono ?_
  rintro x w1 ⟨rfl, hr, hgr⟩
  have c0 := hr.c0
  have hlt := hr.lt
  have HR := Lib.hid hr
  have HGR := Lib.hid hgr
  clear hr hgr HU
  go_wp2_with fail
  refine (clone_any (R.extract 0 n) (by simp; omega) _).mono ?_
  rintro x w2 ⟨rfl, hb⟩
  have hg2 : w1.grownBy w2 (some b) := grown_below hb
  have hr2 : Rd w2 b R E := (hb.block b hlt).trans HR.out
  have d0 := hr2.c0
  have f0 := hr2.f0 0
  have HR2 := Lib.hid hr2
  have HG2 := Lib.hid (grown_trans HGR.out hg2)
  clear hb hg2 hr2 c0 HR HGR
  go_wp2
  go_ret
  exact ⟨rfl, HR2.out.set0 _, grown_trans HG2.out (grown_set _ _ _ _)⟩
theorem emp_extract (i j : Nat) : (⟨#[]⟩ : ByteArray).extract i j = ⟨#[]⟩ := by
  apply eq_of_byt
  · have e : (⟨#[]⟩ : ByteArray).size = 0 := rfl
    simp; omega
  · intro k hk
    have e : (⟨#[]⟩ : ByteArray).size = 0 := rfl
    simp at hk; omega
theorem txt_any (B : ByteArray) (At : Nat) (E most : Int) (b : Nat) (hA : At ≤ B.size) (hm : B.size ≤ 140737488355328) (m1 : -9223372036854775808 ≤ most) (m2 : most ≤ 9223372036854775807) (w : World) (hd : Wd w) (h : Rd w b (rst B At E) E) :
    Calls Tryd.prog 69 #[.pointer (some ⟨b, 0, none⟩), .int .i64 most] w fun x w' => x = .returned (.string (txtV B At E most)) ∧ Rd w' b (rst B (txtA B At E most) (txtE B At E most)) (txtE B At E most) ∧ w.grownBy w' (some b) := by
  have hm' : B.size ≤ maxLen := by unfold maxLen; omega
  have hAA := rawA_le B At E hA
  have HU := num_any B At E most b hA hm' m1 m2 w hd h
  rcases txt3 B At E most hA with ⟨h1, h2, h3, h4, h5⟩ | ⟨h1, h2, h3, h4, h5⟩ | ⟨h1, n, h2, h3, h4, h5, h6⟩
  · rw [h3, h4, h5, rst_dead _ _ _ h1]
    rw [h2, rst_dead _ _ _ h1] at HU
    have := txt_in b 0 most (numE B At E most) ⟨#[]⟩ (by decide) (by decide) w HU
    rw [emp_extract, emp_extract] at this
    exact this
  · rw [h3, h4, h5, rst_dead _ _ 2 (by decide)]
    exact txt_no B At E most b hA hm' m1 m2 w hd h h1 h2
  · rw [h4, h5, h6, rst_live]
    rw [h1, h2, rst_live] at HU
    have hl := rst_len B (rawA B At E) hAA
    have := txt_in b n most 0 _ (by rw [hl]; omega) (by rw [hl]; omega) w HU
    rw [rst_text B _ n h3, rst_step B _ n h3] at this
    exact this
end Go.Proofs.YtcknklodnfabpaaDoor
