/- Write. -/
import Derived.Test.YtcknklodnfabpaaDoorUM
import Derived.Test.YtcknklodnfabpaaDoorUP
namespace Go.Proofs.YtcknklodnfabpaaDoor
open Go Go.RowKit
/-- How it stands within Write. -/
structure WS (w W : World) (base b p : Nat) (s : ByteArray) (u : Up) : Prop where
  hb : 0 < b
  hp : p ≠ b
  wr : ∃ v, Wr W base b v s false
  d : Wd W
  ub : Ub W p u
  fr : Fr base b w W
theorem WS.start {w : World} {base b : Nat} {s : ByteArray} (hb : 0 < b) (hd : Wd w) (h : ∃ v, Wr w base b v s false) (key : ByteArray) (k n : Int) (t : ByteArray) : WS w (w.alloc (.cells #[.string key, .int .i64 k, .int .i64 n, .string t] 45)) base b w.heap.size s (key, k, n, t) := by
  obtain ⟨v, hv⟩ := h
  have hbel := Joins.below_alloc1 w (.cells #[.string key, .int .i64 k, .int .i64 n, .string t] 45)
  have h1 := hv.lo
  have h2 := hv.hi
  exact ⟨hb, by omega, ⟨v, hv.below hbel⟩, hd.alloc _, Ub.new w (key, k, n, t), Fr.ofBelow hbel hv.hi⟩
theorem WS.call {w W W' : World} {base b p : Nat} {s s' : ByteArray} {u : Up} (h : WS w W base b p s u) (hw : ∃ v, Wr W' base b v s' false) (hf : Fr base b W W') : WS w W' base b p s' u :=
  ⟨h.hb, h.hp, hw, by obtain ⟨v, hv⟩ := h.wr; exact h.d.fr hf h.hb hv.lo, (hf.typ p _ _ _ h.ub (by decide) h.hp).trans h.ub, h.fr.trans hf⟩
theorem wnum_ok {w W : World} {base b p : Nat} {s : ByteArray} {u : Up} (h : WS w W base b p s u) {n : Int} (hn : okN n) (hsz : s.size + 8 ≤ 140737488355328) :
    Calls Tryd.prog 24 #[.pointer (some ⟨b, 0, none⟩), .int .i64 n] W fun x W' => x = .returned (.tuple #[]) ∧ WS w W' base b p (s ++ pxN n) u := by
  obtain ⟨v, hv⟩ := h.wr
  refine (wnum_any base b v s false n (by have := hn.1; omega) (by have := hn.2; omega) hsz (fun e => by cases e) W h.d hv).mono ?_
  rintro x W' ⟨rfl, hw, hf⟩
  rw [wS_N, decide_eq_true hn] at hw
  exact ⟨rfl, h.call hw hf⟩
theorem wsgn_ok {w W : World} {base b p : Nat} {s : ByteArray} {u : Up} (h : WS w W base b p s u) {n : Int} (hn : okS n) (hsz : s.size + 8 ≤ 140737488355328) :
    Calls Tryd.prog 44 #[.pointer (some ⟨b, 0, none⟩), .int .i64 n] W fun x W' => x = .returned (.tuple #[]) ∧ WS w W' base b p (s ++ pxS n) u := by
  obtain ⟨v, hv⟩ := h.wr
  refine (wsgn_any base b v s false n (by have := hn.1; omega) (by have := hn.2; omega) hsz (fun e => by cases e) W h.d hv).mono ?_
  rintro x W' ⟨rfl, hw, hf⟩
  rw [wS_S, decide_eq_true hn] at hw
  exact ⟨rfl, h.call hw hf⟩
theorem wtxt_ok {w W : World} {base b p : Nat} {s : ByteArray} {u : Up} (h : WS w W base b p s u) {t : ByteArray} (ht : t.size ≤ 1000000) (hsz : s.size + t.size + 8 ≤ 140737488355328) :
    Calls Tryd.prog 43 #[.pointer (some ⟨b, 0, none⟩), .string t] W fun x W' => x = .returned (.tuple #[]) ∧ WS w W' base b p (s ++ pxT t) u := by
  obtain ⟨v, hv⟩ := h.wr
  refine (wtxt_any base b v s t false ht hsz (fun e => by cases e) W h.d hv).mono ?_
  rintro x W' ⟨rfl, hw, hf⟩
  exact ⟨rfl, h.call hw hf⟩
set_option maxHeartbeats 1000000 in
theorem wrt_1 (base b : Nat) (s key t : ByteArray) (n : Int) (hb : 0 < b) (hsz : s.size + 3000 ≤ 140737488355328) (hkey : key.size ≤ 1000) (hn : okS n) (w : World) (hd : Wd w) (h : ∃ v, Wr w base b v s false) :
    Calls Tryd.prog 25 #[.pointer (some ⟨b, 0, none⟩), .agg #[.string key, .int .i64 1, .int .i64 n, .string t]] w fun x w' => x = .returned (.tuple #[]) ∧ (∃ v, Wr w' base b v (s ++ pxN 1 ++ pxT key ++ pxS n) false) ∧ Fr base b w w' := by
  have HS0 := Lib.hid (WS.start hb hd h key 1 n t)
  have z1 := pxN_size 1
  have z2 := pxT_size key (by omega)
  clear hd h
  go_enter Tryd.func25, Tryd.ntmps25
  have c1 := HS0.out.ub.c1
  go_wp2_with fail
  refine (wnum_ok HS0.out (n := 1) (by decide) (by omega)).mono ?_
  rintro x w1 ⟨rfl, hs⟩
  have c0 := hs.ub.c0
  have HS1 := Lib.hid hs
  clear hs HS0 c1
  go_wp2_with fail
  refine (wtxt_ok HS1.out (t := key) (by omega) (by rw [ByteArray.size_append]; omega)).mono ?_
  rintro x w2 ⟨rfl, hs⟩
  have c1 := hs.ub.c1
  have c2 := hs.ub.c2
  have c3 := hs.ub.c3
  have HS2 := Lib.hid hs
  clear hs HS1 c0
  go_wp2_with fail
  refine (wsgn_ok HS2.out (n := n) hn (by simp only [ByteArray.size_append]; omega)).mono ?_
  rintro x w3 ⟨rfl, hs⟩
  have HS3 := Lib.hid hs
  clear hs HS2 c1 c2 c3
  go_wp2
  first | go_end0 | refine bodyPost_ret (results_none rfl _ _ _) rfl ?_
  exact ⟨rfl, HS3.out.wr, HS3.out.fr⟩
set_option maxHeartbeats 1000000 in
theorem wrt_2 (base b : Nat) (s key t : ByteArray) (n : Int) (hb : 0 < b) (hsz : s.size + 3000 ≤ 140737488355328) (hkey : key.size ≤ 1000) (hs : t.size ≤ 1000) (w : World) (hd : Wd w) (h : ∃ v, Wr w base b v s false) :
    Calls Tryd.prog 25 #[.pointer (some ⟨b, 0, none⟩), .agg #[.string key, .int .i64 2, .int .i64 n, .string t]] w fun x w' => x = .returned (.tuple #[]) ∧ (∃ v, Wr w' base b v (s ++ pxN 2 ++ pxT key ++ pxT t) false) ∧ Fr base b w w' := by
  have HS0 := Lib.hid (WS.start hb hd h key 2 n t)
  have z1 := pxN_size 2
  have z2 := pxT_size key (by omega)
  clear hd h
  go_enter Tryd.func25, Tryd.ntmps25
  have c1 := HS0.out.ub.c1
  go_wp2_with fail
  refine (wnum_ok HS0.out (n := 2) (by decide) (by omega)).mono ?_
  rintro x w1 ⟨rfl, hs⟩
  have c0 := hs.ub.c0
  have HS1 := Lib.hid hs
  clear hs HS0 c1
  go_wp2_with fail
  refine (wtxt_ok HS1.out (t := key) (by omega) (by rw [ByteArray.size_append]; omega)).mono ?_
  rintro x w2 ⟨rfl, hs⟩
  have c1 := hs.ub.c1
  have c2 := hs.ub.c2
  have c3 := hs.ub.c3
  have HS2 := Lib.hid hs
  clear hs HS1 c0
  go_wp2_with fail
  refine (wtxt_ok HS2.out (t := t) (by omega) (by simp only [ByteArray.size_append]; omega)).mono ?_
  rintro x w3 ⟨rfl, hs⟩
  have HS3 := Lib.hid hs
  clear hs HS2 c1 c2 c3
  go_wp2
  first | go_end0 | refine bodyPost_ret (results_none rfl _ _ _) rfl ?_
  exact ⟨rfl, HS3.out.wr, HS3.out.fr⟩
set_option maxHeartbeats 1000000 in
theorem wrt_3 (base b : Nat) (s key t : ByteArray) (n : Int) (hb : 0 < b) (hsz : s.size + 3000 ≤ 140737488355328) (hkey : key.size ≤ 1000) (hn : okS n) (w : World) (hd : Wd w) (h : ∃ v, Wr w base b v s false) :
    Calls Tryd.prog 25 #[.pointer (some ⟨b, 0, none⟩), .agg #[.string key, .int .i64 3, .int .i64 n, .string t]] w fun x w' => x = .returned (.tuple #[]) ∧ (∃ v, Wr w' base b v (s ++ pxN 3 ++ pxT key ++ pxS n) false) ∧ Fr base b w w' := by
  have HS0 := Lib.hid (WS.start hb hd h key 3 n t)
  have z1 := pxN_size 3
  have z2 := pxT_size key (by omega)
  clear hd h
  go_enter Tryd.func25, Tryd.ntmps25
  have c1 := HS0.out.ub.c1
  go_wp2_with fail
  refine (wnum_ok HS0.out (n := 3) (by decide) (by omega)).mono ?_
  rintro x w1 ⟨rfl, hs⟩
  have c0 := hs.ub.c0
  have HS1 := Lib.hid hs
  clear hs HS0 c1
  go_wp2_with fail
  refine (wtxt_ok HS1.out (t := key) (by omega) (by rw [ByteArray.size_append]; omega)).mono ?_
  rintro x w2 ⟨rfl, hs⟩
  have c1 := hs.ub.c1
  have c2 := hs.ub.c2
  have c3 := hs.ub.c3
  have HS2 := Lib.hid hs
  clear hs HS1 c0
  go_wp2_with fail
  refine (wsgn_ok HS2.out (n := n) hn (by simp only [ByteArray.size_append]; omega)).mono ?_
  rintro x w3 ⟨rfl, hs⟩
  have HS3 := Lib.hid hs
  clear hs HS2 c1 c2 c3
  go_wp2
  first | go_end0 | refine bodyPost_ret (results_none rfl _ _ _) rfl ?_
  exact ⟨rfl, HS3.out.wr, HS3.out.fr⟩
set_option maxHeartbeats 1000000 in
theorem wrt_4 (base b : Nat) (s key t : ByteArray) (n : Int) (hb : 0 < b) (hsz : s.size + 3000 ≤ 140737488355328) (hkey : key.size ≤ 1000) (hs : t.size ≤ 1000) (w : World) (hd : Wd w) (h : ∃ v, Wr w base b v s false) :
    Calls Tryd.prog 25 #[.pointer (some ⟨b, 0, none⟩), .agg #[.string key, .int .i64 4, .int .i64 n, .string t]] w fun x w' => x = .returned (.tuple #[]) ∧ (∃ v, Wr w' base b v (s ++ pxN 4 ++ pxT key ++ pxT t) false) ∧ Fr base b w w' := by
  have HS0 := Lib.hid (WS.start hb hd h key 4 n t)
  have z1 := pxN_size 4
  have z2 := pxT_size key (by omega)
  clear hd h
  go_enter Tryd.func25, Tryd.ntmps25
  have c1 := HS0.out.ub.c1
  go_wp2_with fail
  refine (wnum_ok HS0.out (n := 4) (by decide) (by omega)).mono ?_
  rintro x w1 ⟨rfl, hs⟩
  have c0 := hs.ub.c0
  have HS1 := Lib.hid hs
  clear hs HS0 c1
  go_wp2_with fail
  refine (wtxt_ok HS1.out (t := key) (by omega) (by rw [ByteArray.size_append]; omega)).mono ?_
  rintro x w2 ⟨rfl, hs⟩
  have c1 := hs.ub.c1
  have c2 := hs.ub.c2
  have c3 := hs.ub.c3
  have HS2 := Lib.hid hs
  clear hs HS1 c0
  go_wp2_with fail
  refine (wtxt_ok HS2.out (t := t) (by omega) (by simp only [ByteArray.size_append]; omega)).mono ?_
  rintro x w3 ⟨rfl, hs⟩
  have HS3 := Lib.hid hs
  clear hs HS2 c1 c2 c3
  go_wp2
  first | go_end0 | refine bodyPost_ret (results_none rfl _ _ _) rfl ?_
  exact ⟨rfl, HS3.out.wr, HS3.out.fr⟩
set_option maxHeartbeats 1000000 in
theorem wrt_5 (base b : Nat) (s key t : ByteArray) (n : Int) (hb : 0 < b) (hsz : s.size + 3000 ≤ 140737488355328) (hkey : key.size ≤ 1000) (w : World) (hd : Wd w) (h : ∃ v, Wr w base b v s false) :
    Calls Tryd.prog 25 #[.pointer (some ⟨b, 0, none⟩), .agg #[.string key, .int .i64 5, .int .i64 n, .string t]] w fun x w' => x = .returned (.tuple #[]) ∧ (∃ v, Wr w' base b v (s ++ pxN 5 ++ pxT key) false) ∧ Fr base b w w' := by
  have HS0 := Lib.hid (WS.start hb hd h key 5 n t)
  have z1 := pxN_size 5
  have z2 := pxT_size key (by omega)
  clear hd h
  go_enter Tryd.func25, Tryd.ntmps25
  have c1 := HS0.out.ub.c1
  go_wp2_with fail
  refine (wnum_ok HS0.out (n := 5) (by decide) (by omega)).mono ?_
  rintro x w1 ⟨rfl, hs⟩
  have c0 := hs.ub.c0
  have HS1 := Lib.hid hs
  clear hs HS0 c1
  go_wp2_with fail
  refine (wtxt_ok HS1.out (t := key) (by omega) (by rw [ByteArray.size_append]; omega)).mono ?_
  rintro x w2 ⟨rfl, hs⟩
  have c1 := hs.ub.c1
  have c2 := hs.ub.c2
  have c3 := hs.ub.c3
  have HS2 := Lib.hid hs
  clear hs HS1 c0
  go_wp2
  first | go_end0 | refine bodyPost_ret (results_none rfl _ _ _) rfl ?_
  exact ⟨rfl, HS2.out.wr, HS2.out.fr⟩
/-- What the Kind has. -/
def pxK (u : Up) : ByteArray := if u.2.1 = 1 ∨ u.2.1 = 3 then pxS u.2.2.1 else if u.2.1 = 2 ∨ u.2.1 = 4 then pxT u.2.2.2 else ⟨#[]⟩
/-- An update's bytes. -/
def pxU (u : Up) : ByteArray := pxN u.2.1 ++ pxT u.1 ++ pxK u
theorem may_ok (u : Up) (h : mayE u = 0) : 1 ≤ u.1.size ∧ u.1.size ≤ 16 ∧ (((u.2.1 = 1 ∨ u.2.1 = 3) ∧ okS u.2.2.1 ∧ u.2.2.2 = ⟨#[]⟩) ∨ ((u.2.1 = 2 ∨ u.2.1 = 4) ∧ u.2.2.1 = 0 ∧ u.2.2.2.size ≤ 32) ∨ (u.2.1 = 5 ∧ u.2.2.1 = 0 ∧ u.2.2.2 = ⟨#[]⟩)) := by
  obtain ⟨key, k, n, t⟩ := u
  by_cases hk : key.size = 0 ∨ 16 < key.size
  · rw [mayE_key _ _ _ _ hk] at h; exact absurd h (by decide)
  rw [mayE_in _ _ _ _ (by omega) (by omega)] at h
  refine ⟨by show 1 ≤ key.size; omega, by show key.size ≤ 16; omega, ?_⟩
  unfold mayK at h
  split at h
  · rename_i h1
    split at h
    · rename_i h2
      split at h
      · exact absurd h (by decide)
      · exact .inl ⟨h1, by unfold okS; show -2305843009213693952 ≤ n ∧ n < 2305843009213693952; omega, h2⟩
    · exact absurd h (by decide)
  · split at h
    · rename_i h1
      split at h
      · rename_i h2
        split at h
        · exact absurd h (by decide)
        · exact .inr (.inl ⟨h1, h2, by show t.size ≤ 32; omega⟩)
      · exact absurd h (by decide)
    · split at h
      · rename_i h1
        split at h
        · rename_i h2; exact .inr (.inr ⟨h1, h2.1, h2.2⟩)
        · exact absurd h (by decide)
      · exact absurd h (by decide)
theorem ok_may (u : Up) (h1 : 1 ≤ u.1.size) (h2 : u.1.size ≤ 16) (h : (((u.2.1 = 1 ∨ u.2.1 = 3) ∧ okS u.2.2.1 ∧ u.2.2.2 = ⟨#[]⟩) ∨ ((u.2.1 = 2 ∨ u.2.1 = 4) ∧ u.2.2.1 = 0 ∧ u.2.2.2.size ≤ 32) ∨ (u.2.1 = 5 ∧ u.2.2.1 = 0 ∧ u.2.2.2 = ⟨#[]⟩))) : mayE u = 0 := by
  obtain ⟨key, k, n, t⟩ := u
  rw [mayE_in _ _ _ _ h1 h2]
  simp only at h
  unfold mayK
  rcases h with ⟨a, b, c⟩ | ⟨a, b, c⟩ | ⟨a, b, c⟩
  · unfold okS at b
    rw [if_pos a, if_pos c, if_neg (by omega)]
  · rw [if_neg (by omega), if_pos a, if_pos b, if_neg (by omega)]
  · rw [if_neg (by omega), if_neg (by omega), if_pos a, if_pos ⟨b, c⟩]
theorem pxU_1 (key t : ByteArray) (k n : Int) (hk : k = 1 ∨ k = 3) : pxU (key, k, n, t) = pxN k ++ pxT key ++ pxS n := by unfold pxU pxK; simp only; rw [if_pos hk]
theorem pxU_2 (key t : ByteArray) (k n : Int) (hk : k = 2 ∨ k = 4) : pxU (key, k, n, t) = pxN k ++ pxT key ++ pxT t := by unfold pxU pxK; simp only; rw [if_neg (by omega), if_pos hk]
theorem pxU_5 (key t : ByteArray) (n : Int) : pxU (key, 5, n, t) = pxN 5 ++ pxT key := by unfold pxU pxK; simp only; rw [if_neg (by omega), if_neg (by omega), app_empty]
theorem wrt_any (base b : Nat) (s : ByteArray) (u : Up) (hb : 0 < b) (hsz : s.size + 3000 ≤ 140737488355328) (hu : mayE u = 0) (w : World) (hd : Wd w) (h : ∃ v, Wr w base b v s false) :
    Calls Tryd.prog 25 #[.pointer (some ⟨b, 0, none⟩), uu u] w fun x w' => x = .returned (.tuple #[]) ∧ (∃ v, Wr w' base b v (s ++ pxU u) false) ∧ Fr base b w w' := by
  have hok := may_ok u hu
  obtain ⟨key, k, n, t⟩ := u
  obtain ⟨k1, k2, hk⟩ := hok
  simp only at k1 k2 hk
  unfold uu
  simp only
  rcases hk with ⟨hk, hn, rfl⟩ | ⟨hk, rfl, ht⟩ | ⟨rfl, rfl, rfl⟩
  · rw [pxU_1 _ _ _ _ hk, ← ByteArray.append_assoc, ← ByteArray.append_assoc]
    rcases hk with rfl | rfl
    · exact wrt_1 base b s key _ n hb hsz (by omega) hn w hd h
    · exact wrt_3 base b s key _ n hb hsz (by omega) hn w hd h
  · rw [pxU_2 _ _ _ _ hk, ← ByteArray.append_assoc, ← ByteArray.append_assoc]
    rcases hk with rfl | rfl
    · exact wrt_2 base b s key t _ hb hsz (by omega) (by omega) w hd h
    · exact wrt_4 base b s key t _ hb hsz (by omega) (by omega) w hd h
  · rw [pxU_5, ← ByteArray.append_assoc]
    exact wrt_5 base b s key _ _ hb hsz (by omega) w hd h
theorem pxU_size (u : Up) (h : mayE u = 0) : (pxU u).size ≤ 100 := by
  obtain ⟨h1, h2, h3⟩ := may_ok u h
  unfold pxU
  have z1 := pxN_size u.2.1
  have z2 := pxT_size u.1 (by omega)
  simp only [ByteArray.size_append]
  have z3 : (pxK u).size ≤ 40 := by
    unfold pxK
    split
    · have := pxS_size u.2.2.1; omega
    · split
      · rename_i ha hb
        have ht : u.2.2.2.size ≤ 32 := by
          rcases h3 with ⟨a, _⟩ | ⟨_, _, c⟩ | ⟨a, _⟩
          · exact absurd a ha
          · exact c
          · omega
        have := pxT_size u.2.2.2 (by omega); omega
      · show 0 ≤ 40; omega
  omega
end Go.Proofs.YtcknklodnfabpaaDoor
