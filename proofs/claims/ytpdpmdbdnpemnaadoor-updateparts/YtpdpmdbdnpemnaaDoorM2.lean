/- The writer's Number, Signed, Text; the document's Number, Signed, Text. -/
import Derived.Test.YtpdpmdbdnpemnaaDoorM1
import Derived.Test.YtpdpmdbdnpemnaaDoorW6
namespace Go.Proofs.YtpdpmdbdnpemnaaDoor
open Go Go.RowKit
/-- Has a number bytes? -/
def okN (n : Int) : Prop := 0 ≤ n ∧ n < 4611686018427387904
instance (n : Int) : Decidable (okN n) := by unfold okN; infer_instance
def okS (n : Int) : Prop := -2305843009213693952 ≤ n ∧ n < 2305843009213693952
instance (n : Int) : Decidable (okS n) := by unfold okS; infer_instance
theorem zig_bd (n : Int) (h : okS n) : 0 ≤ zigS n ∧ zigS n < 4611686018427387904 := by
  unfold okS at h; unfold zigS; split <;> omega
set_option maxHeartbeats 400000 in
theorem wuns_no (base b : Nat) (v : Value) (s : ByteArray) (failed : Bool) (n : Int) (hn : 4611686018427387904 ≤ n) (w : World) (hd : Wd w) (h : Wr w base b v s failed) :
    Calls Tryd.prog 45 #[.pointer (some ⟨b, 0, none⟩), .int .u64 n] w fun x w' => x = .returned (.tuple #[]) ∧ Wr w' base b (.slice none 0 0) ⟨#[]⟩ true ∧ Fr base b w w' := by
  have HB := Lib.hid h
  clear h
  go_enter Tryd.func45, Tryd.ntmps45
  go_wp2_with fail
  refine (putN n hn _ hd).mono ?_
  rintro x w1 ⟨rfl, rfl⟩
  go_wp2_with fail
  refine (wfail_any base b v s failed _ HB.out).mono ?_
  rintro x w1 ⟨rfl, hw, hf⟩
  have HW := Lib.hid hw
  have HF := Lib.hid hf
  clear hw hf
  go_wp2
  first | go_end0 | refine bodyPost_ret (results_none rfl _ _ _) rfl ?_
  exact ⟨rfl, HW.out, HF.out⟩
set_option maxHeartbeats 400000 in
theorem wuns_yes (base b : Nat) (v : Value) (s : ByteArray) (failed : Bool) (n : Int) (hn : okN n) (hsz : s.size + 8 ≤ 140737488355328) (w : World) (hd : Wd w) (h : Wr w base b v s failed) :
    Calls Tryd.prog 45 #[.pointer (some ⟨b, 0, none⟩), .int .u64 n] w fun x w' => x = .returned (.tuple #[]) ∧ (∃ v', Wr w' base b v' (if failed then s else s ++ strOfNums (putS n)) failed) ∧ Fr base b w w' := by
  have HB := Lib.hid h
  have hpl := putS_length n hn.1 hn.2
  have hps : (strOfNums (putS n)).size ≤ 8 := by rw [strOfNums_size]; omega
  have p1 := Lib.hid (fun w h => put_yes n hn.1 hn.2 w h)
  clear h hpl hn
  generalize strOfNums (putS n) = px at *
  generalize hout : (if failed = true then s else s ++ px) = out at *
  have HOUT := Lib.hid hout
  clear hout
  go_enter Tryd.func45, Tryd.ntmps45
  go_wp2_with fail
  refine (p1.out _ hd).mono ?_
  rintro x w1 ⟨rfl, hb⟩
  have HB1 := Lib.hid (HB.out.below hb)
  have HF1 := Lib.hid (Fr.ofBelow (b := b) hb HB.out.hi)
  clear hb HB p1
  go_wp2_with fail
  refine (add_any base b v s px failed (by omega) _ HB1.out).mono ?_
  rintro x w2 ⟨rfl, hw, hf⟩
  rw [HOUT.out] at hw
  have HW := Lib.hid hw
  have HF := Lib.hid (HF1.out.trans hf)
  clear hw hf
  go_wp2
  first | go_end0 | refine bodyPost_ret (results_none rfl _ _ _) rfl ?_
  exact ⟨rfl, HW.out, HF.out⟩
/-- What a writer holds behind a field that has the bytes px, or none. -/
def wS (s : ByteArray) (failed ok : Bool) (px : ByteArray) : ByteArray := if failed then s else if ok then s ++ px else ⟨#[]⟩
theorem wuns_any (base b : Nat) (v : Value) (s : ByteArray) (failed : Bool) (n : Int) (h0 : 0 ≤ n) (hsz : s.size + 8 ≤ 140737488355328) (hemp : failed = true → s = ⟨#[]⟩) (w : World) (hd : Wd w) (h : Wr w base b v s failed) :
    Calls Tryd.prog 45 #[.pointer (some ⟨b, 0, none⟩), .int .u64 n] w fun x w' => x = .returned (.tuple #[]) ∧ (∃ v', Wr w' base b v' (wS s failed (decide (okN n)) (strOfNums (putS n))) (failed || !decide (okN n))) ∧ Fr base b w w' := by
  by_cases hn : okN n
  · rw [decide_eq_true hn, Bool.not_true, Bool.or_false]
    exact wuns_yes base b v s failed n hn hsz w hd h
  · rw [decide_eq_false hn, Bool.not_false, Bool.or_true]
    have hw : wS s failed false (strOfNums (putS n)) = ⟨#[]⟩ := by
      unfold wS
      cases failed with
      | true => rw [if_pos rfl]; exact hemp rfl
      | false => rfl
    rw [hw]
    refine (wuns_no base b v s failed n (by unfold okN at hn; omega) w hd h).mono ?_
    rintro x w1 ⟨rfl, hw, hf⟩
    exact ⟨rfl, ⟨_, hw⟩, hf⟩
set_option maxHeartbeats 400000 in
theorem wnum_any (base b : Nat) (v : Value) (s : ByteArray) (failed : Bool) (n : Int) (n1 : -9223372036854775808 ≤ n) (n2 : n ≤ 9223372036854775807) (hsz : s.size + 8 ≤ 140737488355328) (hemp : failed = true → s = ⟨#[]⟩) (w : World) (hd : Wd w) (h : Wr w base b v s failed) :
    Calls Tryd.prog 27 #[.pointer (some ⟨b, 0, none⟩), .int .i64 n] w fun x w' => x = .returned (.tuple #[]) ∧ (∃ v', Wr w' base b v' (wS s failed (decide (okN n)) (strOfNums (putS n))) (failed || !decide (okN n))) ∧ Fr base b w w' := by
  by_cases hneg : n < 0
  · have e1 : IntKind.u64.wrap n = n + 18446744073709551616 := by rw [IntKind.wrap_u64]; omega
    have HU := wuns_any base b v s failed (n + 18446744073709551616) (by omega) hsz hemp w hd h
    have hk : decide (okN (n + 18446744073709551616)) = false := by rw [decide_eq_false_iff_not]; unfold okN; omega
    have hk2 : decide (okN n) = false := by rw [decide_eq_false_iff_not]; unfold okN; omega
    rw [hk] at HU
    rw [hk2]
    have e2 : wS s failed false (strOfNums (putS n)) = wS s failed false (strOfNums (putS (n + 18446744073709551616))) := rfl
    rw [e2]
    generalize wS s failed false (strOfNums (putS (n + 18446744073709551616))) = out at *
    have HH := Lib.hid HU
    clear HU h
    go_enter Tryd.func27, Tryd.ntmps27
    go_wp2_with fail
    refine HH.out.mono ?_
    rintro x w1 ⟨rfl, hw, hf⟩
    have HW := Lib.hid hw
    have HF := Lib.hid hf
    clear hw hf HH
    go_wp2
    first | go_end0 | refine bodyPost_ret (results_none rfl _ _ _) rfl ?_
    exact ⟨rfl, HW.out, HF.out⟩
  · have HU := wuns_any base b v s failed n (by omega) hsz hemp w hd h
    generalize wS s failed (decide (okN n)) (strOfNums (putS n)) = out at *
    generalize (failed || !decide (okN n)) = fo at *
    have HH := Lib.hid HU
    clear HU h
    go_enter Tryd.func27, Tryd.ntmps27
    go_wp2_with fail
    refine HH.out.mono ?_
    rintro x w1 ⟨rfl, hw, hf⟩
    have HW := Lib.hid hw
    have HF := Lib.hid hf
    clear hw hf HH
    go_wp2
    first | go_end0 | refine bodyPost_ret (results_none rfl _ _ _) rfl ?_
    exact ⟨rfl, HW.out, HF.out⟩
set_option maxHeartbeats 400000 in
theorem wsgn_any (base b : Nat) (v : Value) (s : ByteArray) (failed : Bool) (n : Int) (n1 : -9223372036854775808 ≤ n) (n2 : n ≤ 9223372036854775807) (hsz : s.size + 8 ≤ 140737488355328) (hemp : failed = true → s = ⟨#[]⟩) (w : World) (hd : Wd w) (h : Wr w base b v s failed) :
    Calls Tryd.prog 29 #[.pointer (some ⟨b, 0, none⟩), .int .i64 n] w fun x w' => x = .returned (.tuple #[]) ∧ (∃ v', Wr w' base b v' (wS s failed (decide (okS n)) (strOfNums (putS (zigS n)))) (failed || !decide (okS n))) ∧ Fr base b w w' := by
  by_cases hn : okS n
  · have hz := zig_bd n hn
    have HU := wuns_any base b v s failed (zigS n) hz.1 hsz hemp w hd h
    rw [decide_eq_true (show okN (zigS n) from hz)] at HU
    rw [decide_eq_true hn]
    have hy := Lib.hid (fun w h => zig_yes n hn.1 hn.2 w h)
    generalize wS s failed true (strOfNums (putS (zigS n))) = out at *
    generalize (failed || !true) = fo at *
    generalize zigS n = z at *
    have HH := Lib.hid HU
    clear HU h hn
    go_enter Tryd.func29, Tryd.ntmps29
    go_wp2_with fail
    refine (hy.out _ hd).mono ?_
    rintro x w1 ⟨rfl, rfl⟩
    go_wp2_with fail
    refine HH.out.mono ?_
    rintro x w1 ⟨rfl, hw, hf⟩
    have HW := Lib.hid hw
    have HF := Lib.hid hf
    clear hw hf HH
    go_wp2
    first | go_end0 | refine bodyPost_ret (results_none rfl _ _ _) rfl ?_
    exact ⟨rfl, HW.out, HF.out⟩
  · rw [decide_eq_false hn, Bool.not_false, Bool.or_true]
    have hw : wS s failed false (strOfNums (putS (zigS n))) = ⟨#[]⟩ := by
      unfold wS
      cases failed with
      | true => rw [if_pos rfl]; exact hemp rfl
      | false => rfl
    rw [hw]
    have hno := Lib.hid (fun w h => zig_no n n1 n2 (by unfold okS at hn; omega) w h)
    have HB := Lib.hid h
    clear h hw hn
    go_enter Tryd.func29, Tryd.ntmps29
    go_wp2_with fail
    refine (hno.out _ hd).mono ?_
    rintro x w1 ⟨rfl, rfl⟩
    go_wp2_with fail
    refine (wfail_any base b v s failed _ HB.out).mono ?_
    rintro x w1 ⟨rfl, hw, hf⟩
    have HW := Lib.hid hw
    have HF := Lib.hid hf
    clear hw hf
    go_wp2
    first | go_end0 | refine bodyPost_ret (results_none rfl _ _ _) rfl ?_
    exact ⟨rfl, ⟨_, HW.out⟩, HF.out⟩
set_option maxHeartbeats 400000 in
theorem wtxt_any (base b : Nat) (v : Value) (s t : ByteArray) (failed : Bool) (ht : t.size ≤ 1000000) (hsz : s.size + t.size + 8 ≤ 140737488355328) (hemp : failed = true → s = ⟨#[]⟩) (w : World) (hd : Wd w) (h : Wr w base b v s failed) :
    Calls Tryd.prog 28 #[.pointer (some ⟨b, 0, none⟩), .string t] w fun x w' => x = .returned (.tuple #[]) ∧ (∃ v', Wr w' base b v' (wS s failed true (strOfNums (putS t.size) ++ t)) failed) ∧ Fr base b w w' := by
  have hok : okN (t.size : Int) := by unfold okN; omega
  have HU := wnum_any base b v s failed (t.size : Int) (by omega) (by omega) (by omega) hemp w hd h
  rw [decide_eq_true hok, Bool.not_true, Bool.or_false] at HU
  have hpl := putS_length (t.size : Int) hok.1 hok.2
  have hps : (strOfNums (putS (t.size : Int))).size ≤ 8 := by rw [strOfNums_size]; omega
  have hsz1 : (wS s failed true (strOfNums (putS (t.size : Int)))).size + t.size ≤ 140737488355328 := by
    unfold wS
    cases failed with
    | true => rw [if_pos rfl]; omega
    | false => rw [if_neg (by simp), if_pos rfl, ByteArray.size_append]; omega
  have HOUT : Hid ((if failed then wS s failed true (strOfNums (putS (t.size : Int))) else wS s failed true (strOfNums (putS (t.size : Int))) ++ t) = wS s failed true (strOfNums (putS (t.size : Int)) ++ t)) := by
    show (if failed then wS s failed true (strOfNums (putS (t.size : Int))) else wS s failed true (strOfNums (putS (t.size : Int))) ++ t) = wS s failed true (strOfNums (putS (t.size : Int)) ++ t)
    cases failed with
    | true => rfl
    | false => simp [wS, ByteArray.append_assoc]
  generalize wS s failed true (strOfNums (putS (t.size : Int)) ++ t) = out at *
  generalize wS s failed true (strOfNums (putS (t.size : Int))) = mid at *
  have HH := Lib.hid HU
  clear HU h hok hpl hps
  go_enter Tryd.func28, Tryd.ntmps28
  go_wp2_with fail
  refine HH.out.mono ?_
  rintro x w1 ⟨rfl, ⟨v1, hw⟩, hf⟩
  have HW := Lib.hid hw
  have HF := Lib.hid hf
  clear hw hf HH
  go_wp2_with fail
  refine (add_any base b v1 mid t failed hsz1 _ HW.out).mono ?_
  rintro x w2 ⟨rfl, hw, hf⟩
  rw [HOUT.out] at hw
  have HW2 := Lib.hid hw
  have HF2 := Lib.hid (HF.out.trans hf)
  clear hw hf
  go_wp2
  first | go_end0 | refine bodyPost_ret (results_none rfl _ _ _) rfl ?_
  exact ⟨rfl, HW2.out, HF2.out⟩
end Go.Proofs.YtpdpmdbdnpemnaaDoor
