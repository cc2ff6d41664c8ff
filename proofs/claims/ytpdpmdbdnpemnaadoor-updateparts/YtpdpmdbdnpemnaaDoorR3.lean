/- The reader's reads, each by one contract over the text, the place and the error. -/
import Derived.Test.YtpdpmdbdnpemnaaDoorR2
namespace Go.Proofs.YtpdpmdbdnpemnaaDoor
open Go Go.RowKit
theorem pos0 {b : Nat} (hb : 0 < b) : some 0 ≠ some b := by simp; omega
theorem uns_any (B : ByteArray) (At : Nat) (E : Int) (b : Nat) (hA : At ≤ B.size) (hm : B.size ≤ maxLen) (w : World) (hd : Wd w) (h : Rd w b (rst B At E) E) :
    Calls Tryd.prog 52 #[.pointer (some ⟨b, 0, none⟩)] w fun x w' => x = .returned (.int .u64 (rawV B At E)) ∧ Rd w' b (rst B (rawA B At E) (rawE B At E)) (rawE B At E) ∧ w.grownBy w' (some b) := by
  rcases raw3 B At E hA with ⟨hE, hr, hV, hAA, hEE⟩ | ⟨rfl, e, h1, h3, _, hg, hr, hV, hAA, hEE⟩ | ⟨rfl, N, W, h1, h2, h3, h4, h5, _, hg, hr, hV, hAA, hEE⟩
  · rw [hV, hAA, hEE]
    have h' := h
    rw [hr] at h
    refine (uns_dead b E hE w hd h).mono ?_
    rintro x w1 ⟨rfl, rfl⟩
    exact ⟨rfl, h', grown_refl _ _⟩
  · rw [hV, hAA, hEE]
    rw [hr] at h
    refine (uns_err b _ (by rw [rst_len B At hA]; omega) e h1 hg w hd h).mono ?_
    rintro x w1 ⟨rfl, hx, hgr⟩
    rw [rst_dead _ _ _ (by omega)]
    exact ⟨rfl, hx, hgr⟩
  · rw [hV, hAA, hEE]
    rw [hr] at h
    refine (uns_ok b _ (by rw [rst_len B At hA]; omega) N W (by rw [rst_len B At hA]; omega) hg w hd h).mono ?_
    rintro x w1 ⟨rfl, hx, hgr⟩
    rw [rst_step B At W h3] at hx
    rw [rst_live]
    exact ⟨rfl, hx, hgr⟩
theorem fail_any (B : ByteArray) (At : Nat) (E e : Int) (b : Nat) (w : World) (h : Rd w b (rst B At E) E) :
    Calls Tryd.prog 38 #[.pointer (some ⟨b, 0, none⟩), .int .i64 e] w fun x w' => x = .returned (.tuple #[]) ∧ Rd w' b (rst B At (failE E e)) (failE E e) ∧ w.grownBy w' (some b) := by
  by_cases hE : E ≠ 0
  · rw [show failE E e = E from if_pos hE]
    refine (fail_no b _ E e hE w h).mono ?_
    rintro x w1 ⟨rfl, rfl⟩
    exact ⟨rfl, h, grown_refl _ _⟩
  · obtain rfl : E = 0 := by omega
    rw [show failE 0 e = e from if_neg (by simp)]
    by_cases he : e = 0
    · subst he
      refine (fail_ok b _ w h).mono ?_
      rintro x w1 ⟨rfl, rfl⟩
      exact ⟨rfl, h, grown_refl _ _⟩
    · refine (fail_yes b _ e he w h).mono ?_
      rintro x w1 ⟨rfl, hx, hgr⟩
      rw [rst_dead _ _ _ he]
      exact ⟨rfl, hx, hgr⟩
set_option maxHeartbeats 400000 in
theorem num_hi (B : ByteArray) (At : Nat) (E most : Int) (b : Nat) (hA : At ≤ B.size) (hm : B.size ≤ maxLen) (m1 : -9223372036854775808 ≤ most) (m2 : most ≤ 9223372036854775807) (h0 : rawE B At E = 0) (hV : bd most < rawV B At E) (w : World) (hd : Wd w) (h : Rd w b (rst B At E) E) :
    Calls Tryd.prog 50 #[.pointer (some ⟨b, 0, none⟩), .int .i64 most] w fun x w' => x = .returned (.int .i64 0) ∧ Rd w' b ⟨#[]⟩ 1 ∧ w.grownBy w' (some b) := by
  have HU := Lib.hid (uns_any B At E b hA hm w hd h)
  rw [h0] at HU
  have hbd := bd_bd most
  have hvb := rawV_bd B At E hA
  generalize rawV B At E = V at *
  clear h
  go_enter Tryd.func50, Tryd.ntmps50
  go_wp2_with fail
  refine HU.out.mono ?_
  rintro x w1 ⟨rfl, hr, hgr⟩
  have HR := Lib.hid hr
  have HGR := Lib.hid hgr
  clear hr hgr HU
  go_wp2_with fail
  refine (bound_any most m1 m2 _).mono ?_
  rintro x w2 ⟨rfl, rfl⟩
  generalize bd most = M at *
  go_wp2_with fail
  refine (fail_yes b _ 1 (by decide) _ HR.out).mono ?_
  rintro x w3 ⟨rfl, hr, hgr⟩
  have HR3 := Lib.hid hr
  have HG3 := Lib.hid (grown_trans HGR.out hgr)
  clear hr hgr
  go_wp2
  go_ret
  exact ⟨rfl, HR3.out, HG3.out⟩
set_option maxHeartbeats 400000 in
theorem num_lo (B : ByteArray) (At : Nat) (E most : Int) (b : Nat) (hA : At ≤ B.size) (hm : B.size ≤ maxLen) (m1 : -9223372036854775808 ≤ most) (m2 : most ≤ 9223372036854775807) (hV : rawV B At E ≤ bd most) (w : World) (hd : Wd w) (h : Rd w b (rst B At E) E) :
    Calls Tryd.prog 50 #[.pointer (some ⟨b, 0, none⟩), .int .i64 most] w fun x w' => x = .returned (.int .i64 (rawV B At E)) ∧ Rd w' b (rst B (rawA B At E) (rawE B At E)) (rawE B At E) ∧ w.grownBy w' (some b) := by
  have HU := Lib.hid (uns_any B At E b hA hm w hd h)
  have hbd := bd_bd most
  have hvb := rawV_bd B At E hA
  generalize rawV B At E = V at *
  clear h
  go_enter Tryd.func50, Tryd.ntmps50
  go_wp2_with fail
  refine HU.out.mono ?_
  rintro x w1 ⟨rfl, hr, hgr⟩
  have HR := Lib.hid hr
  have HGR := Lib.hid hgr
  clear hr hgr HU
  go_wp2_with fail
  refine (bound_any most m1 m2 _).mono ?_
  rintro x w2 ⟨rfl, rfl⟩
  generalize bd most = M at *
  go_wp2
  go_ret
  exact ⟨rfl, HR.out, HGR.out⟩
theorem num_any (B : ByteArray) (At : Nat) (E most : Int) (b : Nat) (hA : At ≤ B.size) (hm : B.size ≤ maxLen) (m1 : -9223372036854775808 ≤ most) (m2 : most ≤ 9223372036854775807) (w : World) (hd : Wd w) (h : Rd w b (rst B At E) E) :
    Calls Tryd.prog 50 #[.pointer (some ⟨b, 0, none⟩), .int .i64 most] w fun x w' => x = .returned (.int .i64 (numV B At E most)) ∧ Rd w' b (rst B (rawA B At E) (numE B At E most)) (numE B At E most) ∧ w.grownBy w' (some b) := by
  have hbd := bd_bd most
  rcases num3 B At E most hA with ⟨h1, h2, h3, h4⟩ | ⟨h1, h2, h3, h4⟩ | ⟨h1, h2, h3, h4⟩
  · rw [h3, h4, ← h2]
    exact num_lo B At E most b hA hm m1 m2 (by omega) w hd h
  · rw [h3, h4, rst_dead _ _ 1 (by decide)]
    exact num_hi B At E most b hA hm m1 m2 h1 h2 w hd h
  · rw [h3, h4, ← h1]
    exact num_lo B At E most b hA hm m1 m2 h2 w hd h
set_option maxHeartbeats 400000 in
theorem sgn_any (B : ByteArray) (At : Nat) (E : Int) (b : Nat) (hb : 0 < b) (hA : At ≤ B.size) (hm : B.size ≤ maxLen) (w : World) (hd : Wd w) (h : Rd w b (rst B At E) E) :
    Calls Tryd.prog 33 #[.pointer (some ⟨b, 0, none⟩)] w fun x w' => x = .returned (.int .i64 (sgnV B At E)) ∧ Rd w' b (rst B (rawA B At E) (rawE B At E)) (rawE B At E) ∧ w.grownBy w' (some b) := by
  have HS : Hid (zagS (rawV B At E) = sgnV B At E) := by
    show zagS (rawV B At E) = sgnV B At E
    unfold sgnV
    split
    · rename_i hne
      rcases num3 B At E 0 hA with ⟨_, h2, _, _⟩ | ⟨h1, _, _, _⟩ | ⟨h1, _, _, _⟩
      · rw [h2]; rfl
      · exact absurd h1 hne
      · exact absurd h1 hne
    · rfl
  have HU := Lib.hid (uns_any B At E b hA hm w hd h)
  have hvb := rawV_bd B At E hA
  generalize rawV B At E = V at *
  clear h
  go_enter Tryd.func33, Tryd.ntmps33
  go_wp2_with fail
  refine HU.out.mono ?_
  rintro x w1 ⟨rfl, hr, hgr⟩
  have hd1 := hd.grown hgr (pos0 hb)
  have HR := Lib.hid hr
  have HGR := Lib.hid hgr
  clear hr hgr HU
  go_wp2_with fail
  refine (zag_yes V hvb.1 hvb.2 _ hd1).mono ?_
  rintro x w2 ⟨rfl, rfl⟩
  rw [HS.out]
  go_wp2
  go_ret
  exact ⟨rfl, HR.out, HGR.out⟩
theorem emp_no (s : ByteArray) (h : 0 < s.size) : s.toList.isEmpty = false := by
  rw [ByteArray.toList_eq]
  cases hx : s.data.toList with
  | cons x l => rfl
  | nil =>
    have h2 : s.data.toList.length = 0 := by rw [hx]; rfl
    rw [Array.length_toList] at h2
    have h4 : s.data.size = s.size := rfl
    omega
set_option maxHeartbeats 400000 in
theorem end_emp (err : Int) (b : Nat) (w : World) (h : Rd w b ⟨#[]⟩ err) : Calls Tryd.prog 23 #[.pointer (some ⟨b, 0, none⟩)] w fun x w' => x = .returned (.int .i64 err) ∧ w = w' := by
  have c0 := h.c0
  have c1 := h.c1
  go_enter Tryd.func23, Tryd.ntmps23
  go_wp2
  go_ret
  exact ⟨rfl, rfl⟩
set_option maxHeartbeats 400000 in
theorem end_more (rest : ByteArray) (hs : 0 < rest.size) (b : Nat) (w : World) (h : Rd w b rest 0) : Calls Tryd.prog 23 #[.pointer (some ⟨b, 0, none⟩)] w fun x w' => x = .returned (.int .i64 4) ∧ Rd w' b ⟨#[]⟩ 4 ∧ w.grownBy w' (some b) := by
  have c0 := h.c0
  have he := emp_no rest hs
  go_enter Tryd.func23, Tryd.ntmps23
  go_wp2_with fail
  refine (fail_yes b _ 4 (by decide) _ h).mono ?_
  rintro x w1 ⟨rfl, hr, hgr⟩
  have c1 := hr.c1
  have HR := Lib.hid hr
  have HGR := Lib.hid hgr
  clear hr hgr h c0
  go_wp2
  go_ret
  exact ⟨rfl, HR.out, HGR.out⟩
theorem extract_end (B : ByteArray) (At : Nat) (h : B.size ≤ At) : B.extract At B.size = ⟨#[]⟩ := by
  apply eq_of_byt
  · have e : (B.extract At B.size).size = 0 := by simp; omega
    rw [e]; rfl
  · intro i hi
    simp at hi; omega
theorem end_any (B : ByteArray) (At : Nat) (E : Int) (b : Nat) (w : World) (h : Rd w b (rst B At E) E) :
    Calls Tryd.prog 23 #[.pointer (some ⟨b, 0, none⟩)] w fun x w' => x = .returned (.int .i64 (endE B At E)) ∧ Rd w' b (rst B At (endE B At E)) (endE B At E) ∧ w.grownBy w' (some b) := by
  by_cases hE : E ≠ 0
  · have e1 : endE B At E = E := if_pos hE
    rw [e1]
    have h' := h
    rw [rst_dead _ _ _ hE] at h
    refine (end_emp E b w h).mono ?_
    rintro x w1 ⟨rfl, rfl⟩
    exact ⟨rfl, h', grown_refl _ _⟩
  · obtain rfl : E = 0 := by omega
    by_cases hA : At < B.size
    · have e1 : endE B At 0 = 4 := by unfold endE; rw [if_neg (by simp), if_pos hA]
      rw [e1, rst_dead _ _ 4 (by decide)]
      rw [rst_live] at h
      exact end_more _ (by rw [rst_len B At (by omega)]; omega) b w h
    · have e1 : endE B At 0 = 0 := by unfold endE; rw [if_neg (by simp), if_neg hA]
      rw [e1]
      have h' := h
      rw [rst_live, extract_end B At (by omega)] at h
      refine (end_emp 0 b w h).mono ?_
      rintro x w1 ⟨rfl, rfl⟩
      exact ⟨rfl, h', grown_refl _ _⟩
end Go.Proofs.YtpdpmdbdnpemnaaDoor
