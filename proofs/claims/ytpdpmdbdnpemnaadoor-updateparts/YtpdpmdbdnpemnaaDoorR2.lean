/- The reader: unsigned, bound, Number, Signed, End. -/
import Derived.Test.YtpdpmdbdnpemnaaDoorR1
import Derived.Test.YtpdpmdbdnpemnaaDoorA9
import Derived.Test.YtpdpmdbdnpemnaaDoorW5
namespace Go.Proofs.YtpdpmdbdnpemnaaDoor
open Go Go.RowKit
theorem get_is (s : ByteArray) (a x y z : Int) (hm : s.size ≤ maxLen) (hg : getS s a = (x, y, z)) (w : World) (h : Wd w) : Calls Tryd.prog 60 #[.string s, .int .i64 a] w fun e w' => e = .returned (.tuple #[.int .u64 x, .int .i64 y, .int .i64 z]) ∧ w = w' := by
  have := get_any s a hm w h
  rw [hg] at this
  exact this
theorem getEmpty : getS ⟨#[]⟩ 0 = (0, 0, 2) := rfl
theorem Wd.grown {w w' : World} {row : Option Nat} (h : Wd w) (hg : w.grownBy w' row) (hb : some 0 ≠ row) : Wd w' :=
  ⟨hg.cell h.c0 hb, hg.cell h.c1 hb, hg.cell h.c2 hb, hg.cell h.c3 hb, Nat.lt_of_lt_of_le h.pos hg.size⟩
set_option maxHeartbeats 400000 in
theorem uns_dead (b : Nat) (err : Int) (he : err ≠ 0) (w : World) (hd : Wd w) (h : Rd w b ⟨#[]⟩ err) : Calls Tryd.prog 52 #[.pointer (some ⟨b, 0, none⟩)] w fun x w' => x = .returned (.int .u64 0) ∧ w = w' := by
  have c0 := h.c0
  go_enter Tryd.func52, Tryd.ntmps52
  go_wp2_with fail
  refine (get_is _ _ _ _ _ (by decide) getEmpty _ hd).mono ?_
  rintro e w1 ⟨rfl, rfl⟩
  go_wp2_with fail
  refine (fail_no b _ err 2 he _ h).mono ?_
  rintro e w1 ⟨rfl, rfl⟩
  go_wp2
  go_ret
  exact ⟨rfl, rfl⟩
set_option maxHeartbeats 400000 in
theorem uns_err (b : Nat) (rest : ByteArray) (hm : rest.size ≤ maxLen) (e : Int) (he : 1 ≤ e) (hg : getS rest 0 = (0, 0, e)) (w : World) (hd : Wd w) (h : Rd w b rest 0) : Calls Tryd.prog 52 #[.pointer (some ⟨b, 0, none⟩)] w fun x w' => x = .returned (.int .u64 0) ∧ Rd w' b ⟨#[]⟩ e ∧ w.grownBy w' (some b) := by
  have c0 := h.c0
  have k1 : (e == 0) = false := by rw [beq_eq_false_iff_ne]; omega
  have HG := Lib.hid hg
  clear hg
  go_enter Tryd.func52, Tryd.ntmps52
  go_wp2_with fail
  refine (get_is _ _ _ _ _ hm HG.out _ hd).mono ?_
  rintro x w1 ⟨rfl, rfl⟩
  go_wp2_with fail
  refine (fail_yes b _ e (by omega) _ h).mono ?_
  rintro x w1 ⟨rfl, hr, hgr⟩
  have HR := Lib.hid hr
  have HGR := Lib.hid hgr
  clear hr hgr c0 h
  go_wp2
  go_ret
  exact ⟨rfl, HR.out, HGR.out⟩
set_option maxHeartbeats 400000 in
theorem uns_ok (b : Nat) (rest : ByteArray) (hm : rest.size ≤ maxLen) (N : Int) (W : Nat) (hW : W ≤ rest.size) (hg : getS rest 0 = (N, (W : Int), 0)) (w : World) (hd : Wd w) (h : Rd w b rest 0) : Calls Tryd.prog 52 #[.pointer (some ⟨b, 0, none⟩)] w fun x w' => x = .returned (.int .u64 N) ∧ Rd w' b (rest.extract W rest.size) 0 ∧ w.grownBy w' (some b) := by
  have c0 := h.c0
  have f0 := h.f0 0
  have HG := Lib.hid hg
  have H := Lib.hid h
  clear hg h
  go_enter Tryd.func52, Tryd.ntmps52
  go_wp2_with fail
  refine (get_is _ _ _ _ _ hm HG.out _ hd).mono ?_
  rintro x w1 ⟨rfl, rfl⟩
  go_wp2
  go_ret
  exact ⟨rfl, H.out.set0 _, grown_set _ _ _ _⟩
set_option maxHeartbeats 400000 in
theorem bound_any (most : Int) (h1 : -9223372036854775808 ≤ most) (h2 : most ≤ 9223372036854775807) (w : World) : Calls Tryd.prog 59 #[.int .i64 most] w fun x w' => x = .returned (.int .u64 (bd most)) ∧ w = w' := by
  by_cases ha : most < 0
  · have hb : bd most = 0 := if_pos ha
    rw [hb]
    clear hb
    go_enter Tryd.func59, Tryd.ntmps59
    go_wp2
    go_ret
    exact ⟨rfl, rfl⟩
  · by_cases hc : 1152921504606846976 < most
    · have hb : bd most = 1152921504606846976 := by unfold bd; rw [if_neg ha, if_pos hc]
      rw [hb]
      clear hb
      go_enter Tryd.func59, Tryd.ntmps59
      go_wp2
      go_ret
      exact ⟨rfl, rfl⟩
    · have hb : bd most = most := by unfold bd; rw [if_neg ha, if_neg hc]
      rw [hb]
      clear hb
      go_enter Tryd.func59, Tryd.ntmps59
      go_wp2
      go_ret
      exact ⟨rfl, rfl⟩
end Go.Proofs.YtpdpmdbdnpemnaaDoor
