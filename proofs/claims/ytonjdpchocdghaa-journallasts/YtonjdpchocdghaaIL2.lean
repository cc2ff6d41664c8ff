/- The walk of JournalTwo. -/
import Derived.Test.YtonjdpchocdghaaIL1
namespace Go.Proofs.Ytonjdpchocdghaa
open Go Go.RowKit
set_option maxRecDepth 20000
theorem mayR_two (n : Int) (us : List Up) : mayR 1 n us = mayR 7 n us := by
  unfold mayR headOk
  have e : (1 ≤ (1 : Int) ∧ (1 : Int) ≤ 64 ∧ 1 ≤ n ∧ n ≤ 1099511627776 ∧ 1 ≤ us.length ∧ us.length ≤ 8) = (1 ≤ (7 : Int) ∧ (7 : Int) ≤ 64 ∧ 1 ≤ n ∧ n ≤ 1099511627776 ∧ 1 ≤ us.length ∧ us.length ≤ 8) := by simp
  simp only [e]
theorem addE_two (uss : List (List Up)) (us : List Up) : addE 1 100 uss us = addE 7 100 uss us := by
  unfold addE
  rw [mayR_two]
theorem wpList_appU0n {ops : Array Oper} {rest : List Oper} {o : Oper} {a : Act} {Q : Exit → Act → World → Prop} {w : World} (hgd : o.guard = none) (s x : Operand)
    (ho : o.op = .call { callee := .builtin .append, args := #[s, x], argTypes := #[30, 30] })
    (H : Nat) (hH : w.heap.size = H) (hs : a.eval s = .slice (some ⟨H, 0, none⟩) 0 0) (ax : Option Addr) (len cx : Nat) (hx : a.eval x = .slice ax len cx) (us : List Up) (hu : IsUs w ax len us) (hc : len ≤ cx) (hn : ax = none → cx = 0) (hb : len ≤ 1000000)
    (h : ∀ a' c' w', RowU w.heap.size w' (.slice a' len c') us → Below w.heap.size w w' → wpList Try.prog ops Q rest (a.put o.dst (.slice a' len c')) w') :
    wpList Try.prog ops Q (o :: rest) a (w.alloc (.cells #[] 50)) := by
  subst hH
  exact wpList_appU0 hgd s x ho hs ax len cx hx us hu hc hn hb h
theorem jf0 {b k : Nat} (h : Jf b (.slice none 0 0) (fun _ => False) k) : k = b := by
  rcases h with h | h | h
  · exact h
  · cases h
  · exact h.elim
/-- The second journal's Add, within the law. -/
theorem dd_any {B b : Nat} {F : Nat → Prop} {o last : Int} {uss : List (List Up)} {us : List Up} (hn : uss.length ≤ 1000) (a : Option Addr) (len cap : Nat) (hsm : Sm us) (w : World) (hu : IsUs w a len us) (hd : ∀ g off, a = some ⟨g, off, none⟩ → ¬ F g) (h : Jx 52 B w b F o last uss) :
    Calls Try.prog 12 #[.pointer (some ⟨b, 0, none⟩), .slice a len cap] w fun e w' => ∃ r F', e = .returned (.tuple #[rv r, .int .i64 (addE o last uss us)]) ∧ AddW 52 B w w' b F F' o last uss us r ∧ True := by
  refine (jadd_any hn a len cap hsm w hu hd h).mono ?_
  rintro e w1 ⟨r, F', rfl, x, _⟩
  exact ⟨r, F', rfl, x, trivial⟩
set_option maxHeartbeats 4000000 in
theorem walkTwo (a : Option Addr) (len cap : Nat) (ls : List Rn) (w : World) (h : IsLs w a len ls) :
    Calls Try.prog 7 #[.slice a len cap] w fun e w' => e = .returned (.bool true) ∧ Below w.heap.size w w' := by
  have H := Lib.hid h
  have hsz := h.size
  clear h
  by_cases hg : gL ls
  · go_enter Try.func7, Try.ntmps7
    go_wp2_with fail
    refine (jnew_any 1 100 w.heap.size w (Nat.le_refl _)).mono ?_
    rintro e w1 ⟨rfl, _, hb⟩
    have HB0 := Lib.hid hb
    clear hb
    go_wp2_with fail
    refine (jnew_any 7 100 w1.heap.size w1 (Nat.le_refl _)).mono ?_
    rintro e w1' ⟨rfl, _, hb⟩
    have HB1 := Lib.hid (Below.next HB0.out hb)
    clear hb HB0
    go_wp2_with fail
    refine (awake_any _).mono ?_
    rintro e w2 ⟨rfl, hb⟩
    have HB2 := Lib.hid (Below.next HB1.out hb)
    clear hb HB1
    go_wp2_with fail
    refine (great_yes a len cap ls hg _ (isLs_below H.out HB2.out)).mono ?_
    rintro e w3 ⟨rfl, hb⟩
    have HB3 := Lib.hid (Below.next HB2.out hb)
    clear hb HB2
    go_wp2_with fail
    refine (awake_any _).mono ?_
    rintro e w4 ⟨rfl, hb⟩
    have HB4 := Lib.hid (Below.next HB3.out hb)
    clear hb HB3
    go_wp2
    go_ret
    exact ⟨rfl, HB4.out⟩
  obtain ⟨hl30, hgl⟩ := gL_at hg
  have HG := Lib.hid hgl
  have HNG := fun w h => Lib.hid (great_no a len cap ls hg w h)
  have hlen : len ≤ 30 := by omega
  clear hgl hl30 hg
  go_enter Try.func7, Try.ntmps7
  go_wp2_with fail
  refine (jnew_any 1 100 w.heap.size w (Nat.le_refl _)).mono ?_
  rintro e w1 ⟨rfl, hj, hb⟩
  have HJ0 := Lib.hid hj
  have HB0 := Lib.hid hb
  clear hj hb
  go_wp2_with fail
  refine (jnew_any 7 100 w.heap.size w1 HB0.out.size).mono ?_
  rintro e w1' ⟨rfl, hj, hb⟩
  have H1 : Hid (Jp 52 52 w w1' w.heap.size w1.heap.size _ _ 1 7 100 [] []) := Lib.hid ⟨Below.next HB0.out hb, HJ0.out.next hb, hj, fun k h1 h2 => by
    have := jf0 h1
    have := jf0 h2
    have := (HJ0.out.foot k h1).2
    omega⟩
  generalize Jf w.heap.size (.slice none 0 0) (fun _ => False) = F0 at H1
  generalize Jf w1.heap.size (.slice none 0 0) (fun _ => False) = G0 at H1
  clear hj hb HJ0 HB0
  go_wp2_with fail
  generalize w1.heap.size = c at *
  refine (awake_any _).mono ?_
  rintro e w2 ⟨rfl, hb⟩
  have H2 := Lib.hid (H1.out.next hb)
  clear hb H1
  go_wp2_with fail
  refine (HNG _ (isLs_below H.out H2.out.bel)).out.mono ?_
  rintro e w3 ⟨rfl, hb⟩
  have H3 := Lib.hid (H2.out.next hb)
  clear hb H2 HNG
  go_wp2_with fail
  go_loopw [30] (fun v30 wr => ∃ k : Nat, k ≤ len ∧ v30 = .int .i64 k ∧ ∃ F G uss, uss.length ≤ k ∧ Jp 52 52 w wr w.heap.size c F G 1 7 100 uss uss) (fun v30 _ => len - (intOf v30).toNat)
  case atStart => exact ⟨0, Nat.zero_le _, rfl, F0, G0, [], Nat.le_refl _, H3.out⟩
  case round =>
    obtain ⟨k, hk, rfl, F, G, uss, hul, hp⟩ := hrel
    clear H3
    by_cases hlt : k < len
    · obtain ⟨gb, off, rfl, c0, hru⟩ := lcells_of H.out hp.bel hlt
      obtain ⟨_, hsm⟩ := HG.out k (by omega)
      have HP := Lib.hid hp
      generalize ls.getD k rn0 = r at *
      obtain ⟨ro0, rn0', ra, rl, rc, rus⟩ := r
      simp only at c0 hsm
      have HRU := Lib.hid hru
      have hrl := hru.1.size
      have hlc := hru.2.1
      have hna := hru.2.2
      simp only at hrl hlc hna
      have hr1000 := hsm.1
      clear hru hp
      by_cases he : addE 1 100 uss rus = 0
      · have HE := Lib.hid he
        have he7 : addE 7 100 uss rus = 0 := (addE_two uss rus).symm.trans he
        go_wp2_with (at_builtin; refine wpList_appU0 rfl _ _ rfl rfl ra rl rc rfl rus (HRU.out.below HP.out.bel).1 hlc hna (by omega) ?_)
        intro a3 c3 w3 hr3 hb3
        have hP3 := HP.out.next hb3
        have hA := jadd_any (uss := uss) (us := rus) (by omega) a3 rl c3 hsm w3 (hr3.isU hrl.symm).1 (fun g off e hF => by
          have := (hr3.addr e).1
          have := (HP.out.j.foot g hF).2
          omega) hP3.j
        rw [he] at hA
        have HA := Lib.hid hA
        have HP3 := Lib.hid hP3
        clear hr3 hb3 hP3 hA
        go_wp2_with fail
        refine HA.out.mono ?_
        rintro e w4 ⟨r, F', rfl, haw, how, _⟩
        have hP4 := HP3.out.add1 haw
        have eo := haw.r.o'
        have en := haw.r.n'
        have eu := haw.r.us'
        have hrr := haw.ru.1
        rw [if_pos he] at eo en eu
        rw [addL_yes he] at hP4
        have hog : ∀ g off, r.a = some ⟨g, off, none⟩ → ¬ G g := fun g off e hG => by
          obtain ⟨g', e', _, hg', _⟩ : Own w3.heap.size w4 r := (by first | exact how rfl | exact how trivial)
          rw [e'] at e
          cases e
          have := (HP3.out.m.foot _ hG).2
          omega
        obtain ⟨ro, rn, ra', rl', rc', rus'⟩ := r
        simp only at eo en eu hrr hog
        subst eo
        subst en
        have eu := eu.symm
        subst eu
        simp only [rv]
        have hrl' : rl = rl' := hrl.symm.trans hrr.size
        subst hrl'
        obtain ⟨N, hN⟩ : ∃ N : Int, ((uss.length + 1 : Nat) : Int) = N := ⟨_, rfl⟩
        rw [hN]
        have HRR := Lib.hid hrr
        have HOG := Lib.hid hog
        have HR7 := Lib.hid (Rb.new w4 1 N ra' rl rc')
        have hP4' := hP4.next (Joins.below_alloc1 w4 (.cells #[.int .i64 1, .int .i64 N, .slice ra' rl rc'] 32))
        have HRR4 := Lib.hid (isUs_below HRR.out (Joins.below_alloc1 w4 (.cells #[.int .i64 1, .int .i64 N, .slice ra' rl rc'] 32)))
        have HNG7 : Hid (¬ G w4.heap.size) := Lib.hid fun hG => by have := (hP4.m.foot _ hG).2; omega
        have HP4 := Lib.hid hP4'
        have HSZ5 : Hid ((w4.alloc (.cells #[.int .i64 1, .int .i64 N, .slice ra' rl rc'] 32)).heap.size = w4.heap.size + 1) := Lib.hid (by simp)
        clear haw hP4 hP4' HA HP3 how hrr HRR hog
        go_wp2_with (at_builtin; refine wpList_appU0n rfl _ _ rfl (w4.heap.size + 1) (by simp) rfl ra rl rc rfl rus (HRU.out.below HP4.out.bel).1 hlc hna (by omega) ?_)
        intro a5 c5 w5 hr5 hb5
        rw [← HSZ5.out] at hr5 hb5
        have hP5 := HP4.out.next hb5
        have HR7 := Lib.hid (HR7.out.next hb5)
        have HRR5 := Lib.hid (isUs_below HRR4.out hb5)
        have hA := dd_any (uss := uss) (us := rus) (by omega) a5 rl c5 hsm w5 (hr5.isU hrl.symm).1 (fun g off e hF => by
          have := (hr5.addr e).1
          have := (HP4.out.m.foot g hF).2
          omega) hP5.m
        rw [he7] at hA
        have HA := Lib.hid hA
        have HP5 := Lib.hid hP5
        clear hr5 hb5 hP5 hA HP4
        go_wp2_with fail
        generalize w4.heap.size = p7 at *
        refine HA.out.mono ?_
        rintro e w6 ⟨q, G', rfl, haw, _⟩
        have hP6 := HP5.out.add2 haw
        have eo := haw.r.o'
        have en := haw.r.n'
        have eu := haw.r.us'
        have hqq := haw.ru.1
        rw [if_pos he7] at eo en eu
        rw [addL_yes he7] at hP6
        obtain ⟨qo, qn, qa, ql, qc, qus⟩ := q
        simp only at eo en eu hqq
        rw [hN] at en
        have en := en.symm
        subst eo
        subst en
        have eu := eu.symm
        subst eu
        simp only [rv]
        have hql : rl = ql := hrl.symm.trans hqq.size
        subst hql
        have hr7 := HR7.out.left haw.lv HNG7.out
        have hrr6 : IsUs w6 ra' rl rus := isUs_left HRR5.out haw.lv HOG.out
        have hbA := Joins.below_alloc1 w6 (.cells #[.int .i64 7, .int .i64 N, .slice qa rl qc] 32)
        have h7 := hr7.next hbA
        have h9 := Rb.new w6 7 N qa rl qc
        have HRR6 := Lib.hid (isUs_below hrr6 hbA)
        have HQQ6 := Lib.hid (isUs_below hqq hbA)
        have HP6 := Lib.hid (hP6.next hbA)
        have d70 := h7.c0
        have d71 := h7.c1
        have d72 := h7.c2
        have d90 := h9.c0
        have d91 := h9.c1
        have d92 := h9.c2
        have HS := fun W h1 h2 => Lib.hid (ds_yes 0 0 ra' qa rl rc' qc rus (by omega) W h1 h2)
        have HR7 := Lib.hid h7
        have HR9 := Lib.hid h9
        clear haw hP6 HA HP5 hr7 hrr6 hqq hbA h7 h9 HRR4 HRR5
        go_wp2_with fail
        generalize w6.heap.size = p9 at *
        refine (HS _ HRR6.out HQQ6.out).out.mono ?_
        rintro e w7 ⟨rfl, hb⟩
        have HP7 := Lib.hid (HP6.out.next hb)
        have f7 := HR7.out.next hb
        have f9 := HR9.out.next hb
        have d70 := f7.c0
        have d90 := f9.c0
        clear hb f7 f9 HP6 d71 d72 d91 d92 HS HRR6 HQQ6
        go_wp2
        go_roundw
        case rel => exact ⟨k + 1, by omega, by go_num, F', G', uss ++ [rus], by simp; omega, HP7.out⟩
        case measure => simp [intOf]; omega
      · have HE := Lib.hid he
        obtain ⟨er, hee⟩ : ∃ er, addE 1 100 uss rus = er := ⟨_, rfl⟩
        have hee7 : addE 7 100 uss rus = er := (addE_two uss rus).symm.trans hee
        have he7 : ¬ addE 7 100 uss rus = 0 := fun h => he ((addE_two uss rus).trans h)
        have he0 := he
        rw [hee] at he0
        have k1 : (er == 0) = false := by rw [beq_eq_false_iff_ne]; exact he0
        go_wp2_with (at_builtin; refine wpList_appU0 rfl _ _ rfl rfl ra rl rc rfl rus (HRU.out.below HP.out.bel).1 hlc hna (by omega) ?_)
        intro a3 c3 w3 hr3 hb3
        have hP3 := HP.out.next hb3
        have hA := jadd_any (uss := uss) (us := rus) (by omega) a3 rl c3 hsm w3 (hr3.isU hrl.symm).1 (fun g off e hF => by
          have := (hr3.addr e).1
          have := (HP.out.j.foot g hF).2
          omega) hP3.j
        rw [hee] at hA
        have HA := Lib.hid hA
        have HP3 := Lib.hid hP3
        clear hr3 hb3 hP3 hA
        go_wp2_with fail
        refine HA.out.mono ?_
        rintro e w4 ⟨r, F', rfl, haw, how, _⟩
        have hP4 := HP3.out.add1 haw
        have eo := haw.r.o'
        have en := haw.r.n'
        have eu := haw.r.us'
        have hrr := haw.ru.1
        rw [if_neg he] at eo en eu
        rw [addL_no he] at hP4
        obtain ⟨ro, rn, ra', rl', rc', rus'⟩ := r
        simp only at eo en eu hrr
        subst eo
        subst en
        have eu := eu.symm
        subst eu
        simp only [rv]
        have hrl' : 0 = rl' := hrr.size
        subst hrl'
        have HRR := Lib.hid hrr

        have HR7 := Lib.hid (Rb.new w4 0 0 ra' 0 rc')
        have hP4' := hP4.next (Joins.below_alloc1 w4 (.cells #[.int .i64 0, .int .i64 0, .slice ra' 0 rc'] 32))
        have HRR4 := Lib.hid (isUs_below HRR.out (Joins.below_alloc1 w4 (.cells #[.int .i64 0, .int .i64 0, .slice ra' 0 rc'] 32)))
        have HNG7 : Hid (¬ G w4.heap.size) := Lib.hid fun hG => by have := (hP4.m.foot _ hG).2; omega
        have HP4 := Lib.hid hP4'
        have HSZ5 : Hid ((w4.alloc (.cells #[.int .i64 0, .int .i64 0, .slice ra' 0 rc'] 32)).heap.size = w4.heap.size + 1) := Lib.hid (by simp)
        clear haw hP4 hP4' HA HP3 how hrr HRR 
        go_wp2_with (at_builtin; refine wpList_appU0n rfl _ _ rfl (w4.heap.size + 1) (by simp) rfl ra rl rc rfl rus (HRU.out.below HP4.out.bel).1 hlc hna (by omega) ?_)
        intro a5 c5 w5 hr5 hb5
        rw [← HSZ5.out] at hr5 hb5
        have hP5 := HP4.out.next hb5
        have HR7 := Lib.hid (HR7.out.next hb5)
        have HRR5 := Lib.hid (isUs_below HRR4.out hb5)
        have hA := dd_any (uss := uss) (us := rus) (by omega) a5 rl c5 hsm w5 (hr5.isU hrl.symm).1 (fun g off e hF => by
          have := (hr5.addr e).1
          have := (HP4.out.m.foot g hF).2
          omega) hP5.m
        rw [hee7] at hA
        have HA := Lib.hid hA
        have HP5 := Lib.hid hP5
        clear hr5 hb5 hP5 hA HP4
        go_wp2_with fail
        generalize w4.heap.size = p7 at *
        refine HA.out.mono ?_
        rintro e w6 ⟨q, G', rfl, haw, _⟩
        have hP6 := HP5.out.add2 haw
        have eo := haw.r.o'
        have en := haw.r.n'
        have eu := haw.r.us'
        have hqq := haw.ru.1
        rw [if_neg he7] at eo en eu
        rw [addL_no he7] at hP6
        obtain ⟨qo, qn, qa, ql, qc, qus⟩ := q
        simp only at eo en eu hqq
        subst eo
        subst en
        have eu := eu.symm
        subst eu
        simp only [rv]
        have hql : 0 = ql := hqq.size
        subst hql
        have hr7 := HR7.out.left haw.lv HNG7.out
        have hrr6 : IsUs w6 ra' 0 [] := ⟨rfl, fun h => absurd h (Nat.lt_irrefl _)⟩
        have hbA := Joins.below_alloc1 w6 (.cells #[.int .i64 0, .int .i64 0, .slice qa 0 qc] 32)
        have h7 := hr7.next hbA
        have h9 := Rb.new w6 0 0 qa 0 qc
        have HRR6 := Lib.hid (isUs_below hrr6 hbA)
        have HQQ6 := Lib.hid (isUs_below hqq hbA)
        have HP6 := Lib.hid (hP6.next hbA)
        have d70 := h7.c0
        have d71 := h7.c1
        have d72 := h7.c2
        have d90 := h9.c0
        have d91 := h9.c1
        have d92 := h9.c2
        have HS := fun W h1 h2 => Lib.hid (ds_yes 0 0 ra' qa 0 rc' qc [] (by omega) W h1 h2)
        have HR7 := Lib.hid h7
        have HR9 := Lib.hid h9
        clear haw hP6 HA HP5 hr7 hrr6 hqq hbA h7 h9 HRR4 HRR5
        go_wp2_with fail
        generalize w6.heap.size = p9 at *
        refine (HS _ HRR6.out HQQ6.out).out.mono ?_
        rintro e w7 ⟨rfl, hb⟩
        have HP7 := Lib.hid (HP6.out.next hb)
        have f7 := HR7.out.next hb
        have f9 := HR9.out.next hb
        have d70 := f7.c0
        have d90 := f9.c0
        clear hb f7 f9 HP6 d71 d72 d91 d92 HS HRR6 HQQ6
        go_wp2
        go_roundw
        case rel => exact ⟨k + 1, by omega, by go_num, F', G', uss, by omega, HP7.out⟩
        case measure => simp [intOf]; omega
    · obtain rfl : k = len := by omega
      have HP := Lib.hid hp
      clear hp
      go_wp2_with fail
      refine (jlen_any _ HP.out.j).mono ?_
      rintro e w5 ⟨rfl, rfl⟩
      go_wp2_with fail
      refine (jlen_any _ HP.out.m).mono ?_
      rintro e w6 ⟨rfl, rfl⟩
      go_wp2
      go_ret
      exact ⟨rfl, HP.out.bel⟩
end Go.Proofs.Ytonjdpchocdghaa
