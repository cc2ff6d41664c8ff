/- The walk of JournalApart. -/
import Derived.Test.YtonjdpchocdghaaID
namespace Go.Proofs.Ytonjdpchocdghaa
open Go Go.RowKit
set_option maxRecDepth 20000
theorem isLs_below {w w' : World} {a : Option Addr} {len : Nat} {ls : List Rn} (h : IsLs w a len ls) (hb : Below w.heap.size w w') : IsLs w' a len ls :=
  ⟨h.size, fun h0 => by
    obtain ⟨b, off, e, hl, hf⟩ := h.lies h0
    exact ⟨b, off, e, Nat.lt_of_lt_of_le hl hb.size, fun i hi => (hb.cell hl).trans (hf i hi)⟩, fun r hr => (h.each r hr).below hb⟩
set_option maxHeartbeats 2000000 in
theorem walkApart (a : Option Addr) (len cap : Nat) (ls : List Rn) (w : World) (h : IsLs w a len ls) :
    Calls Try.prog 6 #[.slice a len cap] w fun e w' => e = .returned (.bool true) ∧ Below w.heap.size w w' := by
  have H := Lib.hid h
  have hsz := h.size
  clear h
  by_cases hg : gL ls
  · go_enter Try.func6, Try.ntmps6
    go_wp2_with fail
    refine (jnew_any 2 100 w.heap.size w (Nat.le_refl _)).mono ?_
    rintro e w1 ⟨rfl, _, hb⟩
    have HB1 := Lib.hid hb
    clear hb
    go_wp2_with fail
    refine (awake_any _).mono ?_
    rintro e w2 ⟨rfl, hb⟩
    have HB2 := Lib.hid (Below.next HB1.out hb)
    clear hb HB1
    go_wp2_with fail
    refine (great_yes a len cap ls hg _ (isLs_below H.out HB2.out)).mono ?_
    rintro e w3 ⟨rfl, hb⟩
    have HB3 := Lib.hid (Below.next HB2.out hb)
    clear hb HB2
    go_wp2_with fail
    refine (awake_any _).mono ?_
    rintro e w4 ⟨rfl, hb⟩
    have HB4 := Lib.hid (Below.next HB3.out hb)
    clear hb HB3
    go_wp2
    go_ret
    exact ⟨rfl, HB4.out⟩
  obtain ⟨hl30, hgl⟩ := gL_at hg
  have HG := Lib.hid hgl
  have HNG := fun w h => Lib.hid (great_no a len cap ls hg w h)
  have hlen : len ≤ 30 := by omega
  clear hgl hl30 hg
  go_enter Try.func6, Try.ntmps6
  go_wp2_with fail
  refine (jnew_any 2 100 w.heap.size w (Nat.le_refl _)).mono ?_
  rintro e w1 ⟨rfl, hj, hb⟩
  have H1 : Hid (J1 52 w w1 w.heap.size _ 2 100 []) := Lib.hid ⟨hb, hj⟩
  generalize Jf w.heap.size (.slice none 0 0) (fun _ => False) = F0 at H1
  clear hj hb
  go_wp2_with fail
  refine (awake_any _).mono ?_
  rintro e w2 ⟨rfl, hb⟩
  have H2 := Lib.hid (H1.out.next hb)
  clear hb H1
  go_wp2_with fail
  refine (HNG _ (isLs_below H.out H2.out.bel)).out.mono ?_
  rintro e w3 ⟨rfl, hb⟩
  have H3 := Lib.hid (H2.out.next hb)
  clear hb H2 HNG
  go_wp2_with fail
  go_loopw [4, 23] (fun v4 v23 wr => ∃ k : Nat, k ≤ len ∧ v23 = .int .i64 k ∧ ∃ F uss, uss = plays 2 100 ls k ∧ v4 = .int .i64 (uss.length : Int) ∧ J1 52 w wr w.heap.size F 2 100 uss) (fun _ v23 _ => len - (intOf v23).toNat)
  case atStart => exact ⟨0, Nat.zero_le _, rfl, F0, [], rfl, rfl, H3.out⟩
  case round =>
    obtain ⟨k, hk, rfl, F, uss, hus, rfl, hp⟩ := hrel
    clear H3
    have hul : uss.length ≤ k := by rw [hus]; exact plays_len 2 100 ls k
    by_cases hlt : k < len
    · obtain ⟨gb, off, rfl, c0, hru⟩ := lcells_of H.out hp.bel hlt
      obtain ⟨_, hsm⟩ := HG.out k (by omega)
      have hus2 : plays 2 100 ls (k + 1) = addL 2 100 uss (ls.getD k rn0).us := by rw [hus]; rfl
      have hr2 := hru.below hp.bel
      have HP := Lib.hid hp
      generalize ls.getD k rn0 = r at *
      obtain ⟨ro0, rn0', ra, rl, rc, rus⟩ := r
      simp only at c0 hsm hus2
      have HU := Lib.hid hr2.1
      have hrl := hr2.1.size
      have hlc := hr2.2.1
      have hna := hr2.2.2
      simp only at hrl hlc hna
      have hr1000 := hsm.1
      have HEQ := Lib.hid hus2
      clear hru hr2 hp hus hus2
      by_cases he : addE 2 100 uss rus = 0
      · have HE := Lib.hid he
        have he0 := he
        go_wp2_with (at_builtin; refine wpList_appU0 rfl _ _ rfl rfl ra rl rc rfl rus HU.out hlc hna (by omega) ?_)
        intro a3 c3 w3 hr3 hb3
        have hP3 := HP.out.next hb3
        have hA := jadd_any (uss := uss) (us := rus) (by omega) a3 rl c3 hsm w3 (hr3.isU hrl.symm).1 (fun g off e hF => by
          have := (hr3.addr e).1
          have := (HP.out.j.foot g hF).2
          omega) hP3.j
        rw [he] at hA
        have HA := Lib.hid hA
        have HP3 := Lib.hid hP3
        clear hr3 hb3 hP3 hA
        go_wp2_with fail
        refine HA.out.mono ?_
        rintro e w4 ⟨r, F', rfl, haw, _, _⟩
        have hP4 := HP3.out.add haw
        have eo := haw.r.o'
        have en := haw.r.n'
        rw [if_pos he] at eo en
        rw [addL_yes he] at hP4
        obtain ⟨ro, rn, ra', rl', rc', rus'⟩ := r
        simp only at eo en
        subst eo
        simp only [rv]
        have hR := Rb.new w4 2 rn ra' rl' rc'
        have HP4 := Lib.hid (hP4.next (Joins.below_alloc1 w4 (.cells #[.int .i64 2, .int .i64 rn, .slice ra' rl' rc'] 32)))
        have d0 := hR.c0
        have d1 := hR.c1
        clear haw hP4 hR HA HP3
        have hw1 : IntKind.i64.wrap ((uss.length : Int) + 1) = rn := by
          rw [en]
          rw [i64_id (by omega) (by omega)]
          omega
        have HEN := Lib.hid en
        have hl2 : (((uss ++ [rus]).length : Nat) : Int) = rn := by rw [en]; simp
        clear en
        go_wp2_with fail
        refine (jlen_any _ HP4.out.j).mono ?_
        rintro e w5 ⟨rfl, rfl⟩
        rw [hl2]
        go_wp2
        go_roundw
        case rel => exact ⟨k + 1, by omega, by go_num, F', uss ++ [rus], HEQ.out ▸ (addL_yes HE.out).symm, by first | exact (by rw [hl2]) | (rw [hl2]), HP4.out⟩
        case measure => simp [intOf]; omega
      · have HE := Lib.hid he
        obtain ⟨er, hee⟩ : ∃ er, addE 2 100 uss rus = er := ⟨_, rfl⟩
        have he0 := he
        rw [hee] at he0
        have k1 : (er == 0) = false := by rw [beq_eq_false_iff_ne]; exact he0
        go_wp2_with (at_builtin; refine wpList_appU0 rfl _ _ rfl rfl ra rl rc rfl rus HU.out hlc hna (by omega) ?_)
        intro a3 c3 w3 hr3 hb3
        have hP3 := HP.out.next hb3
        have hA := jadd_any (uss := uss) (us := rus) (by omega) a3 rl c3 hsm w3 (hr3.isU hrl.symm).1 (fun g off e hF => by
          have := (hr3.addr e).1
          have := (HP.out.j.foot g hF).2
          omega) hP3.j
        rw [hee] at hA
        have HA := Lib.hid hA
        have HP3 := Lib.hid hP3
        clear hr3 hb3 hP3 hA
        go_wp2_with fail
        refine HA.out.mono ?_
        rintro e w4 ⟨r, F', rfl, haw, _, _⟩
        have hP4 := HP3.out.add haw
        have eo := haw.r.o'
        have en := haw.r.n'
        rw [if_neg he] at eo en
        rw [addL_no he] at hP4
        obtain ⟨ro, rn, ra', rl', rc', rus'⟩ := r
        simp only at eo en
        subst eo
        simp only [rv]
        have hR := Rb.new w4 0 rn ra' rl' rc'
        have HP4 := Lib.hid (hP4.next (Joins.below_alloc1 w4 (.cells #[.int .i64 0, .int .i64 rn, .slice ra' rl' rc'] 32)))
        have d0 := hR.c0
        have d1 := hR.c1
        clear haw hP4 hR HA HP3
        clear en
        go_wp2_with fail
        refine (jlen_any _ HP4.out.j).mono ?_
        rintro e w5 ⟨rfl, rfl⟩
        go_wp2
        go_roundw
        case rel => exact ⟨k + 1, by omega, by go_num, F', uss, HEQ.out ▸ (addL_no HE.out).symm, rfl, HP4.out⟩
        case measure => simp [intOf]; omega
    · obtain rfl : k = len := by omega
      have HP := Lib.hid hp
      clear hp hus
      have e1 : fromK (uss.length : Int) uss.length = uss.length := by unfold fromK; rw [if_neg (by omega), if_pos (Int.le_refl _)]
      have e2 : fromK (-5) uss.length = 0 := by unfold fromK; rw [if_pos (by omega)]
      have HF1 := fun W hW => Lib.hid (jfrom_any (uss := uss) (F := F) (B := w.heap.size) (b := w.heap.size) (o := 2) (last := 100) (uss.length : Int) (by omega) W hW)
      have HF2 := fun W hW => Lib.hid (jfrom_any (uss := uss) (F := F) (B := w.heap.size) (b := w.heap.size) (o := 2) (last := 100) (-5) (by omega) W hW)
      rw [e1, Nat.sub_self] at HF1
      rw [e2, Nat.sub_zero] at HF2
      clear e1 e2
      go_wp2_with fail
      refine (HF1 _ HP.out.j).out.mono ?_
      rintro e w5 ⟨g5, xs5, rfl, _, _, _, _, hb⟩
      have HP5 := Lib.hid (HP.out.next hb)
      clear hb HP
      go_wp2_with fail
      refine (HF2 _ HP5.out.j).out.mono ?_
      rintro e w6 ⟨g6, xs6, rfl, _, _, _, _, hb⟩
      have HP6 := Lib.hid (HP5.out.next hb)
      clear hb HP5
      go_wp2
      go_ret
      exact ⟨rfl, HP6.out.bel⟩
end Go.Proofs.Ytonjdpchocdghaa
