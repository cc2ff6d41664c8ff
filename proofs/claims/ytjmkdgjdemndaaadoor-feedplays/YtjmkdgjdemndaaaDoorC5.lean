/- The document's Add, when it adds. -/
import Derived.Test.YtjmkdgjdemndaaaDoorC4
namespace Go.Proofs.YtjmkdgjdemndaaaDoor
open Go Go.RowKit
set_option maxRecDepth 20000
section
variable {B b : Nat} {F : Nat → Prop} {c : Int} {L : List Cr}
set_option maxHeartbeats 32000000 in
theorem cd_ok (hn : L.length ≤ 1000) (o n : Int) (a : Option Addr) (len cap : Nat) (us : List Up) (w : World) (hu : IsUs w a len us) (h : Cx 78 Pd B w b F c L) (hsm : Sm us) (hce : comE c L (o, n, us) = 0) (hlc : len ≤ cap) (hna : a = none → cap = 0) :
    Calls Tryd.prog 20 #[.pointer (some ⟨b, 0, none⟩), .agg #[.int .i64 o, .int .i64 n, .slice a len cap]] w fun e w' => e = .returned (.int .i64 0) ∧ ∃ F', Cx 78 Pd B w' b F' c (L ++ [(o, n, us)]) ∧ Lv w w' F ∧ ∀ k, F' k → F k ∨ w.heap.size ≤ k := by
  obtain ⟨hm, hq1, hq2⟩ := comE_zero hce
  simp only at hm hq1 hq2
  have hq : ¬ c < o ∧ ¬ n ≤ lastL o L ∧ ¬ lastL o L + 1 < n := ⟨by omega, by omega, by omega⟩
  have HCE := Lib.hid hce
  have HSM := Lib.hid hsm
  have HLE : Hid (us.length = len) := Lib.hid hu.size
  have hl1000 : len ≤ 1000 := by have := hsm.1; have := hu.size; omega
  clear hq1 hq2 hce hsm
  have HU0 := Lib.hid hu
  have HH := Lib.hid h
  have hA := Joins.below_alloc1 w (.cells #[.int .i64 o, .int .i64 n, .slice a len cap] 43)
  have hr := Rb.new w o n a len cap
  have d0 := hr.c0
  have d1 := hr.c1
  have d2 := hr.c2
  have HM := fun w hu => Lib.hid (docmay_any o n a len cap us w hu)
  rw [hm] at HM
  have HU := Lib.hid (isUs_below hu hA)
  have HA := Lib.hid hA
  have HR := Lib.hid hr
  have HX := Lib.hid h
  have HL := fun w h => Lib.hid (dlast_any (B := B) (b := b) (F := F) (c := c) (L := L) o hn w h)
  have HC0 : Hid (∀ W, Below w.heap.size w W → W.cell? ⟨b, 0, none⟩ = some (.int .i64 c)) := Lib.hid fun W hW => by
    obtain ⟨cs, v, S, rs, hj, hp, _⟩ := h
    exact (hj.next hW).c 0 _ hp.2.1
  have hbd := h.good.bound o
  obtain ⟨x, hx⟩ : ∃ x, lastL o L = x := ⟨_, rfl⟩
  rw [hx] at HL hbd hq
  obtain ⟨N, hN⟩ : ∃ N, x + 1 = N := ⟨_, rfl⟩
  have hwr : IntKind.i64.wrap (x + 1) = N := by
    rw [hN]
    exact i64_id (by omega) (by omega)
  rw [hN] at hq
  have q1 : decide (c < o) = false := decide_eq_false (by omega)
  have q2 : decide (n ≤ x) = false := decide_eq_false (by omega)
  have q3 : decide (N < n) = false := decide_eq_false (by omega)
  clear hA hr hu h hm hx hbd hN hq
  go_enter Tryd.func20, Tryd.ntmps20
  go_wp2_with fail
  refine (HM _ HU.out).out.mono ?_
  rintro e w1 ⟨rfl, hb⟩
  have HA1 := Lib.hid (Below.next HA.out hb)
  have hr1 := HR.out.next hb
  have d0 := hr1.c0
  have d1 := hr1.c1
  have d2 := hr1.c2
  have c0 := HC0.out _ HA1.out
  have HX1 := Lib.hid (HX.out.next HA1.out)
  have HR1 := Lib.hid hr1
  clear hb HM hr1
  go_wp2_with fail
  go_quiet (fail)
  revert nq
  intro n1
  have HX1 := Lib.hid (HX1.out.asit (w' := w1.drewN n1) rfl)
  have HA1 : Hid (Below w.heap.size w (w1.drewN n1)) := Lib.hid (belN HA1.out n1)
  have HR1 : Hid (Rb (w1.drewN n1) w.heap.size o n a len cap) := HR1
  have d0 := HR1.out.c0
  have d1 := HR1.out.c1
  have d2 := HR1.out.c2
  have c0 := HC0.out _ HA1.out
  generalize w1.drewN n1 = w1 at *
  go_wp2_with fail
  go_quiet (first | (go_at_call 45; refine Calls.quiet_of_same (HL _ ?_).out; exact HX1.out.asit rfl))
  revert nq
  intro n1
  have HX1 := Lib.hid (HX1.out.asit (w' := w1.drewN n1) rfl)
  have HA1 : Hid (Below w.heap.size w (w1.drewN n1)) := Lib.hid (belN HA1.out n1)
  have HR1 : Hid (Rb (w1.drewN n1) w.heap.size o n a len cap) := HR1
  have d0 := HR1.out.c0
  have d1 := HR1.out.c1
  have d2 := HR1.out.c2
  have c0 := HC0.out _ HA1.out
  generalize w1.drewN n1 = w1 at *
  go_wp2_with fail
  go_quiet (first | (go_at_call 45; refine Calls.quiet_of_same (HL _ ?_).out; exact HX1.out.asit rfl))
  revert nq
  intro n1
  have HX1 := Lib.hid (HX1.out.asit (w' := w1.drewN n1) rfl)
  have HA1 : Hid (Below w.heap.size w (w1.drewN n1)) := Lib.hid (belN HA1.out n1)
  have HR1 : Hid (Rb (w1.drewN n1) w.heap.size o n a len cap) := HR1
  have d0 := HR1.out.c0
  have d1 := HR1.out.c1
  have d2 := HR1.out.c2
  have c0 := HC0.out _ HA1.out
  generalize w1.drewN n1 = w1 at *
  have d2e := (HR1.out.alloc (.cells #[] 114)).c2
  go_wp2_with (at_builtin; refine wpList_appU0 rfl _ _ rfl rfl a len cap rfl us (isUs_below HU0.out HA1.out) hlc hna (by omega) ?_)
  intro a' c' w4 hru hb4
  obtain rfl := HLE.out
  have HRU4 : Hid (RowU w.heap.size w4 (.slice a' us.length c') us) := Lib.hid (hru.lower HA1.out.size)
  have HB4 : Hid (Below w.heap.size w w4) := Lib.hid (Below.next HA1.out hb4)
  have hr4 := HR1.out.next hb4
  have d2f := hr4.c2
  have f2 := hr4.f0 2
  have HR4 := Lib.hid hr4
  clear hru hb4 hr4 d0 d1 d2 d2e c0
  go_wp2_with fail
  have HA2 : Hid (Below w.heap.size w (w4.setCell ⟨w.heap.size, 2, none⟩ (.slice a' us.length c'))) := Lib.hid (HB4.out.setCell (Nat.le_refl _) _)
  have HRB2 : Hid (Rb (w4.setCell ⟨w.heap.size, 2, none⟩ (.slice a' us.length c')) w.heap.size o n a' us.length c') := Lib.hid (HR4.out.set2 a' us.length c')
  have HRU2 : Hid (RowU w.heap.size (w4.setCell ⟨w.heap.size, 2, none⟩ (.slice a' us.length c')) (.slice a' us.length c') us) := Lib.hid (HRU4.out.same fun j hj => by
    obtain ⟨_, cur, hc⟩ := HRU4.out.typ j hj
    have hne : j ≠ w.heap.size := two_types hc HR4.out (by decide)
    exact Below.heap_setCell _ _ _ _ hne)
  clear d2f f2 HRU4 HB4 HR4
  generalize (w4.setCell ⟨w.heap.size, 2, none⟩ (.slice a' us.length c')) = w2 at *
  obtain ⟨cs, v, S, rs, hj, hp, hmp, hs, hg, h1, h2, rfl⟩ := HH.out
  obtain ⟨ax, cp, rfl, _⟩ := hj.is
  have hrl : rs.length = L.length := by rw [← hmp, List.length_map]
  rw [← hrl] at hn
  have HJ := Lib.hid hj
  have HP := Lib.hid hp
  have HE := Lib.hid hmp
  have HS := Lib.hid hs
  have HG := Lib.hid hg
  have HC1 := Lib.hid (And.intro h1 h2)
  have HRBb : Hid (w.heap.size ≠ b) := Lib.hid (by have := hj.lt; omega)
  have HJ2 := Lib.hid (HJ.out.next HA2.out)
  clear hj hp hmp hs hg h1 h2 hrl HH HX HX1 HL HC0
  have HK7 : Hid (∀ W, Below w2.heap.size w2 W → (W.cell? ⟨w.heap.size, 0, none⟩ = some (.int .i64 o) ∧ W.cell? ⟨w.heap.size, 1, none⟩ = some (.int .i64 n) ∧ W.cell? ⟨w.heap.size, 2, none⟩ = some (.slice a' us.length c')) ∧ W.cell? ⟨b, 1, none⟩ = some (.slice ax rs.length cp)) := Lib.hid fun W hW => ⟨⟨(HRB2.out.next hW).c0, (HRB2.out.next hW).c1, (HRB2.out.next hW).c2⟩, (HJ2.out.next hW).c 1 _ HP.out.2.2⟩
  have HB0 : Hid (Below w2.heap.size w2 w2.drew) := Lib.hid (Below.refl w2.heap.size w2).drew
  obtain ⟨hk0, ck0⟩ := HK7.out _ HB0.out
  refine wp_region_held_drew (S := fun w' => w'.cell? ⟨w.heap.size, 0, none⟩ = some (.int .i64 o) ∧ w'.cell? ⟨w.heap.size, 1, none⟩ = some (.int .i64 n) ∧ w'.cell? ⟨w.heap.size, 2, none⟩ = some (.slice a' us.length c')) (by kernel_rfl) ?_ (fun hH => ?_)
  · exact hk0
  refine wpAnyH_take (i := 0) (oi := { dst := some 38, op := Go.Op.move (Go.Operand.tmp 0), type := 30, pos := "ref.go:52", after := #[], guard := none }) (v := ?_) rfl (by kernel_rfl) (by kernel_rfl) (by kernel_rfl) (fun _ _ _ h => h) (Or.inl ⟨by rfl, ?_⟩) (by assumption) ?_
  rotate_left
  · intro w hSw
    try dsimp only at hSw
    obtain ⟨q0, q1, q2⟩ := hSw
    go_simp
    all_goals with_reducible rfl
  try simp only [Act.put, List.setIfInBounds_toArray, List.set_cons_zero, List.set_cons_succ]
  refine wpAnyH_take (i := 2) (oi := { dst := some 40, op := Go.Op.move (Go.Operand.tmp 0), type := 30, pos := "ref.go:52", after := #[], guard := none }) (v := ?_) rfl (by kernel_rfl) (by kernel_rfl) (by kernel_rfl) (fun _ _ _ h => h) (Or.inl ⟨by rfl, ?_⟩) (by assumption) ?_
  rotate_left
  · intro w hSw
    try dsimp only at hSw
    obtain ⟨q0, q1, q2⟩ := hSw
    go_simp
    all_goals with_reducible rfl
  try simp only [Act.put, List.setIfInBounds_toArray, List.set_cons_zero, List.set_cons_succ]
  refine wpAnyH_take (i := 3) (oi := { dst := some 41, op := Go.Op.nilCheck (Go.Operand.tmp 40), type := 0, pos := "ref.go:52", after := #[{ on := 2, ground := Go.Ground.data }], guard := none }) (v := ?_) rfl (by kernel_rfl) (by kernel_rfl) (by kernel_rfl) (fun _ _ _ h => h) (Or.inl ⟨by rfl, ?_⟩) (by assumption) ?_
  rotate_left
  · intro w hSw
    try dsimp only at hSw
    obtain ⟨q0, q1, q2⟩ := hSw
    go_simp
    all_goals with_reducible rfl
  try simp only [Act.put, List.setIfInBounds_toArray, List.set_cons_zero, List.set_cons_succ]
  refine wpAnyH_take (i := 4) (oi := { dst := some 42, op := Go.Op.fieldAddr 78 (Go.Operand.tmp 41) 1, type := 0, pos := "ref.go:52", after := #[{ on := 3, ground := Go.Ground.data }], guard := none }) (v := ?_) rfl (by kernel_rfl) (by kernel_rfl) (by kernel_rfl) (fun _ _ _ h => h) (Or.inl ⟨by rfl, ?_⟩) (by assumption) ?_
  rotate_left
  · intro w hSw
    try dsimp only at hSw
    obtain ⟨q0, q1, q2⟩ := hSw
    go_simp
    all_goals with_reducible rfl
  try simp only [Act.put, List.setIfInBounds_toArray, List.set_cons_zero, List.set_cons_succ]
  refine wpAnyH_take (i := 7) (oi := { dst := some 45, op := Go.Op.load 43 (Go.Operand.tmp 3), type := 43, pos := "ref.go:52", after := #[], guard := none }) (v := ?_) rfl (by kernel_rfl) (by kernel_rfl) (by kernel_rfl) (fun _ _ _ h => h) (Or.inl ⟨by rfl, ?_⟩) (by assumption) ?_
  rotate_left
  · intro w hSw
    try dsimp only at hSw
    obtain ⟨q0, q1, q2⟩ := hSw
    go_simp
    all_goals with_reducible rfl
  try simp only [Act.put, List.setIfInBounds_toArray, List.set_cons_zero, List.set_cons_succ]
  refine wpAnyH_ready (rs := [1, 5, 8]) (by kernel_rfl) (by simp) ?_
  refine AllReadyH.cons (o := { dst := some 39, op := Go.Op.buildSlice 57 0 #[], type := 57, pos := "ref.go:52", after := #[], guard := none }) rfl (fun K hK => ?_) ?_
  · go_simp
    have HB1 : Hid (Below w2.heap.size w2 (w2.drew.alloc (.cells #[] 43))) := Lib.hid (Below.step HB0.out (.cells #[] 43) (Below.refl _ _))
    obtain ⟨hk1, ck1'⟩ := HK7.out _ HB1.out
    have ck1 : (w2.alloc (.cells #[] 43)).cell? ⟨b, 1, none⟩ = some (.slice ax rs.length cp) := ck1'
    clear ck1'
    have HROW : Hid (RowR w2.heap.size (w2.drew.alloc (.cells #[] 43)) (.slice (some ⟨w2.heap.size, 0, none⟩) 0 0) []) := Lib.hid (by
      have := (rowR_new w2.drew).lower (show w2.heap.size ≤ w2.drew.heap.size by simp)
      rw [show w2.drew.heap.size = w2.heap.size by simp] at this
      exact this)
    refine hK.out _ _ ?_ (fun hH => ?_)
    · exact hk1
    clear hK K
    try simp only [Act.put, List.setIfInBounds_toArray, List.set_cons_zero, List.set_cons_succ]
    refine wpAnyH_ready (rs := [5, 8]) (by kernel_rfl) (by simp) ?_
    refine AllReadyH.cons (o := { dst := some 43, op := Go.Op.load 57 (Go.Operand.tmp 42), type := 57, pos := "ref.go:52", after := #[{ on := 4, ground := Go.Ground.data }], guard := none }) rfl (fun K hK => ?_) ?_
    · go_simp
      refine hK.out _ _ ?_ (fun hH => ?_)
      · exact hk1
      clear hK K
      try simp only [Act.put, List.setIfInBounds_toArray, List.set_cons_zero, List.set_cons_succ]
      refine wpAnyH_ready (rs := [6, 8]) (by kernel_rfl) (by simp) ?_
      refine AllReadyH.cons (o := { dst := some 44, op := Go.Op.call { callee := Go.Callee.builtin Go.Builtin.append, args := #[Go.Operand.tmp 39, Go.Operand.tmp 43], argTypes := #[57, 57] }, type := 57, pos := "ref.go:52", after := #[{ on := 1, ground := Go.Ground.data }, { on := 5, ground := Go.Ground.data }], guard := none }) rfl (fun K hK => ?_) ?_
      · obtain ⟨a1, c1', w6, hrun, HROW1, HB2, HKP6⟩ := d7_app0 57 HJ2.out HB1.out HROW.out hn
        obtain ⟨hk2, ck2'⟩ := HK7.out _ HB2.out
        have ck2 : w6.cell? ⟨b, 1, none⟩ = some (.slice ax rs.length cp) := ck2'
        clear ck2'
        refine step_append_run (by rfl) (.tmp 39) (.tmp 43) 57 rfl _ _ _ rfl rfl hrun ?_
        refine hK.out _ _ ?_ (fun hH => ?_)
        · exact hk2
        clear hK K
        try simp only [Act.put, List.setIfInBounds_toArray, List.set_cons_zero, List.set_cons_succ]
        refine wpAnyH_ready (rs := [8]) (by kernel_rfl) (by simp) ?_
        refine AllReadyH.cons (o := { dst := some 46, op := Go.Op.buildSlice 57 1 #[(0, Go.Operand.tmp 45)], type := 57, pos := "ref.go:52", after := #[{ on := 7, ground := Go.Ground.data }], guard := none }) rfl (fun K hK => ?_) ?_
        · go_simp
          have HB3 : Hid (Below w2.heap.size w2 (w6.alloc (.cells #[.int .i64 o, .int .i64 n, .slice a' us.length c'] 43))) := Lib.hid (Below.step HB2.out (.cells #[.int .i64 o, .int .i64 n, .slice a' us.length c'] 43) (Below.refl _ _))
          obtain ⟨hk3, ck3'⟩ := HK7.out _ HB3.out
          have ck3 : (w6.alloc (.cells #[.int .i64 o, .int .i64 n, .slice a' us.length c'] 43)).cell? ⟨b, 1, none⟩ = some (.slice ax rs.length cp) := ck3'
          clear ck3'
          have HONE : Hid (RsAt (w6.alloc (.cells #[.int .i64 o, .int .i64 n, .slice a' us.length c'] 43)) (some ⟨w6.heap.size, 0, none⟩) 1 [⟨o, n, a', us.length, c', us⟩]) := Lib.hid (by
            have := rsAt_one w6 ⟨o, n, a', us.length, c', us⟩
            exact this)
          have HROW1 := Lib.hid (HROW1.out.alloc (.cells #[.int .i64 o, .int .i64 n, .slice a' us.length c'] 43))
          refine hK.out _ _ ?_ (fun hH => ?_)
          · exact hk3
          clear hK K
          try simp only [Act.put, List.setIfInBounds_toArray, List.set_cons_zero, List.set_cons_succ]
          refine wpAnyH_ready (rs := [9]) (by kernel_rfl) (by simp) ?_
          refine AllReadyH.cons (o := { dst := some 47, op := Go.Op.call { callee := Go.Callee.builtin Go.Builtin.append, args := #[Go.Operand.tmp 44, Go.Operand.tmp 46], argTypes := #[57, 57] }, type := 57, pos := "ref.go:52", after := #[{ on := 6, ground := Go.Ground.data }, { on := 8, ground := Go.Ground.data }, { on := 6, ground := Go.Ground.chain }], guard := none }) rfl (fun K hK => ?_) ?_
          · obtain ⟨a2, c2, w8, hrun9, HROW2, HB8⟩ := d7_app1 57 HB3.out HROW1.out HONE.out hn
            obtain ⟨hk9, ck9⟩ := HK7.out _ HB8.out
            refine step_append_run (by rfl) (.tmp 44) (.tmp 46) 57 rfl _ _ _ rfl rfl hrun9 ?_
            refine hK.out _ _ ?_ (fun hH => ?_)
            · exact hk9
            clear hK K
            try simp only [Act.put, List.setIfInBounds_toArray, List.set_cons_zero, List.set_cons_succ]
            refine wpAnyH_take (i := 10) (oi := { dst := some 48, op := Go.Op.nilCheck (Go.Operand.tmp 38), type := 0, pos := "ref.go:52", after := #[{ on := 0, ground := Go.Ground.data }, { on := 0, ground := Go.Ground.phase }, { on := 1, ground := Go.Ground.phase }, { on := 2, ground := Go.Ground.phase }, { on := 3, ground := Go.Ground.phase }, { on := 4, ground := Go.Ground.phase }, { on := 5, ground := Go.Ground.phase }, { on := 6, ground := Go.Ground.phase }, { on := 7, ground := Go.Ground.phase }, { on := 8, ground := Go.Ground.phase }, { on := 9, ground := Go.Ground.phase }], guard := none }) (v := ?_) rfl (by kernel_rfl) (by kernel_rfl) (by kernel_rfl) (fun _ _ _ h => h) (Or.inl ⟨by rfl, ?_⟩) (by assumption) ?_
            rotate_left
            · intro w hSw
              try dsimp only at hSw
              obtain ⟨q0, q1, q2⟩ := hSw
              go_simp
              all_goals with_reducible rfl
            try simp only [Act.put, List.setIfInBounds_toArray, List.set_cons_zero, List.set_cons_succ]
            refine wpAnyH_take (i := 11) (oi := { dst := some 49, op := Go.Op.fieldAddr 78 (Go.Operand.tmp 48) 1, type := 0, pos := "ref.go:52", after := #[{ on := 10, ground := Go.Ground.data }, { on := 0, ground := Go.Ground.phase }, { on := 1, ground := Go.Ground.phase }, { on := 2, ground := Go.Ground.phase }, { on := 3, ground := Go.Ground.phase }, { on := 4, ground := Go.Ground.phase }, { on := 5, ground := Go.Ground.phase }, { on := 6, ground := Go.Ground.phase }, { on := 7, ground := Go.Ground.phase }, { on := 8, ground := Go.Ground.phase }, { on := 9, ground := Go.Ground.phase }], guard := none }) (v := ?_) rfl (by kernel_rfl) (by kernel_rfl) (by kernel_rfl) (fun _ _ _ h => h) (Or.inl ⟨by rfl, ?_⟩) (by assumption) ?_
            rotate_left
            · intro w hSw
              try dsimp only at hSw
              obtain ⟨q0, q1, q2⟩ := hSw
              go_simp
              all_goals with_reducible rfl
            try simp only [Act.put, List.setIfInBounds_toArray, List.set_cons_zero, List.set_cons_succ]
            refine wpAnyH_ready (rs := [12]) (by kernel_rfl) (by simp) ?_
            refine AllReadyH.cons (o := { dst := none, op := Go.Op.store 57 (Go.Operand.tmp 49) (Go.Operand.tmp 47), type := 0, pos := "ref.go:52", after := #[{ on := 11, ground := Go.Ground.data }, { on := 9, ground := Go.Ground.data }, { on := 9, ground := Go.Ground.chain }, { on := 0, ground := Go.Ground.phase }, { on := 1, ground := Go.Ground.phase }, { on := 2, ground := Go.Ground.phase }, { on := 3, ground := Go.Ground.phase }, { on := 4, ground := Go.Ground.phase }, { on := 5, ground := Go.Ground.phase }, { on := 6, ground := Go.Ground.phase }, { on := 7, ground := Go.Ground.phase }, { on := 8, ground := Go.Ground.phase }, { on := 9, ground := Go.Ground.phase }], guard := none }) rfl (fun K hK => ?_) ?_
            · have hrb9 := (HRB2.out.next HB8.out).setnew HRBb.out 1 (.slice a2 (rs.length + 1) c2)
              have hs9 : (w8.setCell ⟨b, 1, none⟩ (.slice a2 (rs.length + 1) c2)).cell? ⟨w.heap.size, 0, none⟩ = some (.int .i64 o) ∧ (w8.setCell ⟨b, 1, none⟩ (.slice a2 (rs.length + 1) c2)).cell? ⟨w.heap.size, 1, none⟩ = some (.int .i64 n) ∧ (w8.setCell ⟨b, 1, none⟩ (.slice a2 (rs.length + 1) c2)).cell? ⟨w.heap.size, 2, none⟩ = some (.slice a' us.length c') := ⟨hrb9.c0, hrb9.c1, hrb9.c2⟩
              have gb := (HJ2.out.next HB8.out).f0 1
              clear hrb9
              go_simp
              refine hK.out _ _ ?_ (fun hH => ?_)
              · exact hs9
              clear hK K
              try simp only [Act.put, List.setIfInBounds_toArray, List.set_cons_zero, List.set_cons_succ]
              refine wpAnyH_done (by kernel_rfl) ?_ _
              obtain ⟨d0, d1, d2⟩ := hs9
              obtain ⟨F', x1, x2, x3⟩ := cd_done HJ.out HP.out HE.out HS.out HG.out HC1.out.1 HC1.out.2 HSM.out HCE.out HA2.out HRU2.out HB8.out HROW2.out
              have HX := Lib.hid (And.intro x1 (And.intro x2 x3))
              clear x1 x2 x3 HK7
              go_wp2
              go_ret
              exact ⟨rfl, F', HX.out⟩
            exact AllReadyH.nil
          exact AllReadyH.nil
        exact AllReadyH.nil
      refine AllReadyH.cons (o := { dst := some 46, op := Go.Op.buildSlice 57 1 #[(0, Go.Operand.tmp 45)], type := 57, pos := "ref.go:52", after := #[{ on := 7, ground := Go.Ground.data }], guard := none }) rfl (fun K hK => ?_) ?_
      · go_simp
        have HB2 : Hid (Below w2.heap.size w2 ((w2.drew.alloc (.cells #[] 43)).alloc (.cells #[.int .i64 o, .int .i64 n, .slice a' us.length c'] 43))) := Lib.hid (Below.step HB1.out (.cells #[.int .i64 o, .int .i64 n, .slice a' us.length c'] 43) (Below.refl _ _))
        obtain ⟨hk2, ck2'⟩ := HK7.out _ HB2.out
        have ck2 : ((w2.alloc (.cells #[] 43)).alloc (.cells #[.int .i64 o, .int .i64 n, .slice a' us.length c'] 43)).cell? ⟨b, 1, none⟩ = some (.slice ax rs.length cp) := ck2'
        clear ck2'
        have HONE : Hid (RsAt ((w2.drew.alloc (.cells #[] 43)).alloc (.cells #[.int .i64 o, .int .i64 n, .slice a' us.length c'] 43)) (some ⟨w2.heap.size + 1, 0, none⟩) 1 [⟨o, n, a', us.length, c', us⟩]) := Lib.hid (by
          have := rsAt_one (w2.drew.alloc (.cells #[] 43)) ⟨o, n, a', us.length, c', us⟩
          rw [show (w2.drew.alloc (.cells #[] 43)).heap.size = w2.heap.size + 1 by simp] at this
          exact this)
        have HROW := Lib.hid (HROW.out.alloc (.cells #[.int .i64 o, .int .i64 n, .slice a' us.length c'] 43))
        refine hK.out _ _ ?_ (fun hH => ?_)
        · exact hk2
        clear hK K
        try simp only [Act.put, List.setIfInBounds_toArray, List.set_cons_zero, List.set_cons_succ]
        refine wpAnyH_ready (rs := [6]) (by kernel_rfl) (by simp) ?_
        refine AllReadyH.cons (o := { dst := some 44, op := Go.Op.call { callee := Go.Callee.builtin Go.Builtin.append, args := #[Go.Operand.tmp 39, Go.Operand.tmp 43], argTypes := #[57, 57] }, type := 57, pos := "ref.go:52", after := #[{ on := 1, ground := Go.Ground.data }, { on := 5, ground := Go.Ground.data }], guard := none }) rfl (fun K hK => ?_) ?_
        · obtain ⟨a1, c1', w6, hrun, HROW1, HB3, HKP6⟩ := d7_app0 57 HJ2.out HB2.out HROW.out hn
          obtain ⟨hk3, ck3'⟩ := HK7.out _ HB3.out
          have ck3 : w6.cell? ⟨b, 1, none⟩ = some (.slice ax rs.length cp) := ck3'
          clear ck3'
          have HONE := Lib.hid (rsOne_kept HONE.out HKP6.out (by omega))
          refine step_append_run (by rfl) (.tmp 39) (.tmp 43) 57 rfl _ _ _ rfl rfl hrun ?_
          refine hK.out _ _ ?_ (fun hH => ?_)
          · exact hk3
          clear hK K
          try simp only [Act.put, List.setIfInBounds_toArray, List.set_cons_zero, List.set_cons_succ]
          refine wpAnyH_ready (rs := [9]) (by kernel_rfl) (by simp) ?_
          refine AllReadyH.cons (o := { dst := some 47, op := Go.Op.call { callee := Go.Callee.builtin Go.Builtin.append, args := #[Go.Operand.tmp 44, Go.Operand.tmp 46], argTypes := #[57, 57] }, type := 57, pos := "ref.go:52", after := #[{ on := 6, ground := Go.Ground.data }, { on := 8, ground := Go.Ground.data }, { on := 6, ground := Go.Ground.chain }], guard := none }) rfl (fun K hK => ?_) ?_
          · obtain ⟨a2, c2, w8, hrun9, HROW2, HB8⟩ := d7_app1 57 HB3.out HROW1.out HONE.out hn
            obtain ⟨hk9, ck9⟩ := HK7.out _ HB8.out
            refine step_append_run (by rfl) (.tmp 44) (.tmp 46) 57 rfl _ _ _ rfl rfl hrun9 ?_
            refine hK.out _ _ ?_ (fun hH => ?_)
            · exact hk9
            clear hK K
            try simp only [Act.put, List.setIfInBounds_toArray, List.set_cons_zero, List.set_cons_succ]
            refine wpAnyH_take (i := 10) (oi := { dst := some 48, op := Go.Op.nilCheck (Go.Operand.tmp 38), type := 0, pos := "ref.go:52", after := #[{ on := 0, ground := Go.Ground.data }, { on := 0, ground := Go.Ground.phase }, { on := 1, ground := Go.Ground.phase }, { on := 2, ground := Go.Ground.phase }, { on := 3, ground := Go.Ground.phase }, { on := 4, ground := Go.Ground.phase }, { on := 5, ground := Go.Ground.phase }, { on := 6, ground := Go.Ground.phase }, { on := 7, ground := Go.Ground.phase }, { on := 8, ground := Go.Ground.phase }, { on := 9, ground := Go.Ground.phase }], guard := none }) (v := ?_) rfl (by kernel_rfl) (by kernel_rfl) (by kernel_rfl) (fun _ _ _ h => h) (Or.inl ⟨by rfl, ?_⟩) (by assumption) ?_
            rotate_left
            · intro w hSw
              try dsimp only at hSw
              obtain ⟨q0, q1, q2⟩ := hSw
              go_simp
              all_goals with_reducible rfl
            try simp only [Act.put, List.setIfInBounds_toArray, List.set_cons_zero, List.set_cons_succ]
            refine wpAnyH_take (i := 11) (oi := { dst := some 49, op := Go.Op.fieldAddr 78 (Go.Operand.tmp 48) 1, type := 0, pos := "ref.go:52", after := #[{ on := 10, ground := Go.Ground.data }, { on := 0, ground := Go.Ground.phase }, { on := 1, ground := Go.Ground.phase }, { on := 2, ground := Go.Ground.phase }, { on := 3, ground := Go.Ground.phase }, { on := 4, ground := Go.Ground.phase }, { on := 5, ground := Go.Ground.phase }, { on := 6, ground := Go.Ground.phase }, { on := 7, ground := Go.Ground.phase }, { on := 8, ground := Go.Ground.phase }, { on := 9, ground := Go.Ground.phase }], guard := none }) (v := ?_) rfl (by kernel_rfl) (by kernel_rfl) (by kernel_rfl) (fun _ _ _ h => h) (Or.inl ⟨by rfl, ?_⟩) (by assumption) ?_
            rotate_left
            · intro w hSw
              try dsimp only at hSw
              obtain ⟨q0, q1, q2⟩ := hSw
              go_simp
              all_goals with_reducible rfl
            try simp only [Act.put, List.setIfInBounds_toArray, List.set_cons_zero, List.set_cons_succ]
            refine wpAnyH_ready (rs := [12]) (by kernel_rfl) (by simp) ?_
            refine AllReadyH.cons (o := { dst := none, op := Go.Op.store 57 (Go.Operand.tmp 49) (Go.Operand.tmp 47), type := 0, pos := "ref.go:52", after := #[{ on := 11, ground := Go.Ground.data }, { on := 9, ground := Go.Ground.data }, { on := 9, ground := Go.Ground.chain }, { on := 0, ground := Go.Ground.phase }, { on := 1, ground := Go.Ground.phase }, { on := 2, ground := Go.Ground.phase }, { on := 3, ground := Go.Ground.phase }, { on := 4, ground := Go.Ground.phase }, { on := 5, ground := Go.Ground.phase }, { on := 6, ground := Go.Ground.phase }, { on := 7, ground := Go.Ground.phase }, { on := 8, ground := Go.Ground.phase }, { on := 9, ground := Go.Ground.phase }], guard := none }) rfl (fun K hK => ?_) ?_
            · have hrb9 := (HRB2.out.next HB8.out).setnew HRBb.out 1 (.slice a2 (rs.length + 1) c2)
              have hs9 : (w8.setCell ⟨b, 1, none⟩ (.slice a2 (rs.length + 1) c2)).cell? ⟨w.heap.size, 0, none⟩ = some (.int .i64 o) ∧ (w8.setCell ⟨b, 1, none⟩ (.slice a2 (rs.length + 1) c2)).cell? ⟨w.heap.size, 1, none⟩ = some (.int .i64 n) ∧ (w8.setCell ⟨b, 1, none⟩ (.slice a2 (rs.length + 1) c2)).cell? ⟨w.heap.size, 2, none⟩ = some (.slice a' us.length c') := ⟨hrb9.c0, hrb9.c1, hrb9.c2⟩
              have gb := (HJ2.out.next HB8.out).f0 1
              clear hrb9
              go_simp
              refine hK.out _ _ ?_ (fun hH => ?_)
              · exact hs9
              clear hK K
              try simp only [Act.put, List.setIfInBounds_toArray, List.set_cons_zero, List.set_cons_succ]
              refine wpAnyH_done (by kernel_rfl) ?_ _
              obtain ⟨d0, d1, d2⟩ := hs9
              obtain ⟨F', x1, x2, x3⟩ := cd_done HJ.out HP.out HE.out HS.out HG.out HC1.out.1 HC1.out.2 HSM.out HCE.out HA2.out HRU2.out HB8.out HROW2.out
              have HX := Lib.hid (And.intro x1 (And.intro x2 x3))
              clear x1 x2 x3 HK7
              go_wp2
              go_ret
              exact ⟨rfl, F', HX.out⟩
            exact AllReadyH.nil
          exact AllReadyH.nil
        exact AllReadyH.nil
      exact AllReadyH.nil
    refine AllReadyH.cons (o := { dst := some 46, op := Go.Op.buildSlice 57 1 #[(0, Go.Operand.tmp 45)], type := 57, pos := "ref.go:52", after := #[{ on := 7, ground := Go.Ground.data }], guard := none }) rfl (fun K hK => ?_) ?_
    · go_simp
      have HB2 : Hid (Below w2.heap.size w2 ((w2.drew.alloc (.cells #[] 43)).alloc (.cells #[.int .i64 o, .int .i64 n, .slice a' us.length c'] 43))) := Lib.hid (Below.step HB1.out (.cells #[.int .i64 o, .int .i64 n, .slice a' us.length c'] 43) (Below.refl _ _))
      obtain ⟨hk2, ck2'⟩ := HK7.out _ HB2.out
      have ck2 : ((w2.alloc (.cells #[] 43)).alloc (.cells #[.int .i64 o, .int .i64 n, .slice a' us.length c'] 43)).cell? ⟨b, 1, none⟩ = some (.slice ax rs.length cp) := ck2'
      clear ck2'
      have HONE : Hid (RsAt ((w2.drew.alloc (.cells #[] 43)).alloc (.cells #[.int .i64 o, .int .i64 n, .slice a' us.length c'] 43)) (some ⟨w2.heap.size + 1, 0, none⟩) 1 [⟨o, n, a', us.length, c', us⟩]) := Lib.hid (by
        have := rsAt_one (w2.drew.alloc (.cells #[] 43)) ⟨o, n, a', us.length, c', us⟩
        rw [show (w2.drew.alloc (.cells #[] 43)).heap.size = w2.heap.size + 1 by simp] at this
        exact this)
      have HROW := Lib.hid (HROW.out.alloc (.cells #[.int .i64 o, .int .i64 n, .slice a' us.length c'] 43))
      refine hK.out _ _ ?_ (fun hH => ?_)
      · exact hk2
      clear hK K
      try simp only [Act.put, List.setIfInBounds_toArray, List.set_cons_zero, List.set_cons_succ]
      refine wpAnyH_ready (rs := [5]) (by kernel_rfl) (by simp) ?_
      refine AllReadyH.cons (o := { dst := some 43, op := Go.Op.load 57 (Go.Operand.tmp 42), type := 57, pos := "ref.go:52", after := #[{ on := 4, ground := Go.Ground.data }], guard := none }) rfl (fun K hK => ?_) ?_
      · go_simp
        refine hK.out _ _ ?_ (fun hH => ?_)
        · exact hk2
        clear hK K
        try simp only [Act.put, List.setIfInBounds_toArray, List.set_cons_zero, List.set_cons_succ]
        refine wpAnyH_ready (rs := [6]) (by kernel_rfl) (by simp) ?_
        refine AllReadyH.cons (o := { dst := some 44, op := Go.Op.call { callee := Go.Callee.builtin Go.Builtin.append, args := #[Go.Operand.tmp 39, Go.Operand.tmp 43], argTypes := #[57, 57] }, type := 57, pos := "ref.go:52", after := #[{ on := 1, ground := Go.Ground.data }, { on := 5, ground := Go.Ground.data }], guard := none }) rfl (fun K hK => ?_) ?_
        · obtain ⟨a1, c1', w6, hrun, HROW1, HB3, HKP6⟩ := d7_app0 57 HJ2.out HB2.out HROW.out hn
          obtain ⟨hk3, ck3'⟩ := HK7.out _ HB3.out
          have ck3 : w6.cell? ⟨b, 1, none⟩ = some (.slice ax rs.length cp) := ck3'
          clear ck3'
          have HONE := Lib.hid (rsOne_kept HONE.out HKP6.out (by omega))
          refine step_append_run (by rfl) (.tmp 39) (.tmp 43) 57 rfl _ _ _ rfl rfl hrun ?_
          refine hK.out _ _ ?_ (fun hH => ?_)
          · exact hk3
          clear hK K
          try simp only [Act.put, List.setIfInBounds_toArray, List.set_cons_zero, List.set_cons_succ]
          refine wpAnyH_ready (rs := [9]) (by kernel_rfl) (by simp) ?_
          refine AllReadyH.cons (o := { dst := some 47, op := Go.Op.call { callee := Go.Callee.builtin Go.Builtin.append, args := #[Go.Operand.tmp 44, Go.Operand.tmp 46], argTypes := #[57, 57] }, type := 57, pos := "ref.go:52", after := #[{ on := 6, ground := Go.Ground.data }, { on := 8, ground := Go.Ground.data }, { on := 6, ground := Go.Ground.chain }], guard := none }) rfl (fun K hK => ?_) ?_
          · obtain ⟨a2, c2, w8, hrun9, HROW2, HB8⟩ := d7_app1 57 HB3.out HROW1.out HONE.out hn
            obtain ⟨hk9, ck9⟩ := HK7.out _ HB8.out
            refine step_append_run (by rfl) (.tmp 44) (.tmp 46) 57 rfl _ _ _ rfl rfl hrun9 ?_
            refine hK.out _ _ ?_ (fun hH => ?_)
            · exact hk9
            clear hK K
            try simp only [Act.put, List.setIfInBounds_toArray, List.set_cons_zero, List.set_cons_succ]
            refine wpAnyH_take (i := 10) (oi := { dst := some 48, op := Go.Op.nilCheck (Go.Operand.tmp 38), type := 0, pos := "ref.go:52", after := #[{ on := 0, ground := Go.Ground.data }, { on := 0, ground := Go.Ground.phase }, { on := 1, ground := Go.Ground.phase }, { on := 2, ground := Go.Ground.phase }, { on := 3, ground := Go.Ground.phase }, { on := 4, ground := Go.Ground.phase }, { on := 5, ground := Go.Ground.phase }, { on := 6, ground := Go.Ground.phase }, { on := 7, ground := Go.Ground.phase }, { on := 8, ground := Go.Ground.phase }, { on := 9, ground := Go.Ground.phase }], guard := none }) (v := ?_) rfl (by kernel_rfl) (by kernel_rfl) (by kernel_rfl) (fun _ _ _ h => h) (Or.inl ⟨by rfl, ?_⟩) (by assumption) ?_
            rotate_left
            · intro w hSw
              try dsimp only at hSw
              obtain ⟨q0, q1, q2⟩ := hSw
              go_simp
              all_goals with_reducible rfl
            try simp only [Act.put, List.setIfInBounds_toArray, List.set_cons_zero, List.set_cons_succ]
            refine wpAnyH_take (i := 11) (oi := { dst := some 49, op := Go.Op.fieldAddr 78 (Go.Operand.tmp 48) 1, type := 0, pos := "ref.go:52", after := #[{ on := 10, ground := Go.Ground.data }, { on := 0, ground := Go.Ground.phase }, { on := 1, ground := Go.Ground.phase }, { on := 2, ground := Go.Ground.phase }, { on := 3, ground := Go.Ground.phase }, { on := 4, ground := Go.Ground.phase }, { on := 5, ground := Go.Ground.phase }, { on := 6, ground := Go.Ground.phase }, { on := 7, ground := Go.Ground.phase }, { on := 8, ground := Go.Ground.phase }, { on := 9, ground := Go.Ground.phase }], guard := none }) (v := ?_) rfl (by kernel_rfl) (by kernel_rfl) (by kernel_rfl) (fun _ _ _ h => h) (Or.inl ⟨by rfl, ?_⟩) (by assumption) ?_
            rotate_left
            · intro w hSw
              try dsimp only at hSw
              obtain ⟨q0, q1, q2⟩ := hSw
              go_simp
              all_goals with_reducible rfl
            try simp only [Act.put, List.setIfInBounds_toArray, List.set_cons_zero, List.set_cons_succ]
            refine wpAnyH_ready (rs := [12]) (by kernel_rfl) (by simp) ?_
            refine AllReadyH.cons (o := { dst := none, op := Go.Op.store 57 (Go.Operand.tmp 49) (Go.Operand.tmp 47), type := 0, pos := "ref.go:52", after := #[{ on := 11, ground := Go.Ground.data }, { on := 9, ground := Go.Ground.data }, { on := 9, ground := Go.Ground.chain }, { on := 0, ground := Go.Ground.phase }, { on := 1, ground := Go.Ground.phase }, { on := 2, ground := Go.Ground.phase }, { on := 3, ground := Go.Ground.phase }, { on := 4, ground := Go.Ground.phase }, { on := 5, ground := Go.Ground.phase }, { on := 6, ground := Go.Ground.phase }, { on := 7, ground := Go.Ground.phase }, { on := 8, ground := Go.Ground.phase }, { on := 9, ground := Go.Ground.phase }], guard := none }) rfl (fun K hK => ?_) ?_
            · have hrb9 := (HRB2.out.next HB8.out).setnew HRBb.out 1 (.slice a2 (rs.length + 1) c2)
              have hs9 : (w8.setCell ⟨b, 1, none⟩ (.slice a2 (rs.length + 1) c2)).cell? ⟨w.heap.size, 0, none⟩ = some (.int .i64 o) ∧ (w8.setCell ⟨b, 1, none⟩ (.slice a2 (rs.length + 1) c2)).cell? ⟨w.heap.size, 1, none⟩ = some (.int .i64 n) ∧ (w8.setCell ⟨b, 1, none⟩ (.slice a2 (rs.length + 1) c2)).cell? ⟨w.heap.size, 2, none⟩ = some (.slice a' us.length c') := ⟨hrb9.c0, hrb9.c1, hrb9.c2⟩
              have gb := (HJ2.out.next HB8.out).f0 1
              clear hrb9
              go_simp
              refine hK.out _ _ ?_ (fun hH => ?_)
              · exact hs9
              clear hK K
              try simp only [Act.put, List.setIfInBounds_toArray, List.set_cons_zero, List.set_cons_succ]
              refine wpAnyH_done (by kernel_rfl) ?_ _
              obtain ⟨d0, d1, d2⟩ := hs9
              obtain ⟨F', x1, x2, x3⟩ := cd_done HJ.out HP.out HE.out HS.out HG.out HC1.out.1 HC1.out.2 HSM.out HCE.out HA2.out HRU2.out HB8.out HROW2.out
              have HX := Lib.hid (And.intro x1 (And.intro x2 x3))
              clear x1 x2 x3 HK7
              go_wp2
              go_ret
              exact ⟨rfl, F', HX.out⟩
            exact AllReadyH.nil
          exact AllReadyH.nil
        exact AllReadyH.nil
      exact AllReadyH.nil
    exact AllReadyH.nil
  refine AllReadyH.cons (o := { dst := some 43, op := Go.Op.load 57 (Go.Operand.tmp 42), type := 57, pos := "ref.go:52", after := #[{ on := 4, ground := Go.Ground.data }], guard := none }) rfl (fun K hK => ?_) ?_
  · go_simp
    refine hK.out _ _ ?_ (fun hH => ?_)
    · exact hk0
    clear hK K
    try simp only [Act.put, List.setIfInBounds_toArray, List.set_cons_zero, List.set_cons_succ]
    refine wpAnyH_ready (rs := [1, 8]) (by kernel_rfl) (by simp) ?_
    refine AllReadyH.cons (o := { dst := some 39, op := Go.Op.buildSlice 57 0 #[], type := 57, pos := "ref.go:52", after := #[], guard := none }) rfl (fun K hK => ?_) ?_
    · go_simp
      have HB1 : Hid (Below w2.heap.size w2 (w2.drew.alloc (.cells #[] 43))) := Lib.hid (Below.step HB0.out (.cells #[] 43) (Below.refl _ _))
      obtain ⟨hk1, ck1'⟩ := HK7.out _ HB1.out
      have ck1 : (w2.alloc (.cells #[] 43)).cell? ⟨b, 1, none⟩ = some (.slice ax rs.length cp) := ck1'
      clear ck1'
      have HROW : Hid (RowR w2.heap.size (w2.drew.alloc (.cells #[] 43)) (.slice (some ⟨w2.heap.size, 0, none⟩) 0 0) []) := Lib.hid (by
        have := (rowR_new w2.drew).lower (show w2.heap.size ≤ w2.drew.heap.size by simp)
        rw [show w2.drew.heap.size = w2.heap.size by simp] at this
        exact this)
      refine hK.out _ _ ?_ (fun hH => ?_)
      · exact hk1
      clear hK K
      try simp only [Act.put, List.setIfInBounds_toArray, List.set_cons_zero, List.set_cons_succ]
      refine wpAnyH_ready (rs := [6, 8]) (by kernel_rfl) (by simp) ?_
      refine AllReadyH.cons (o := { dst := some 44, op := Go.Op.call { callee := Go.Callee.builtin Go.Builtin.append, args := #[Go.Operand.tmp 39, Go.Operand.tmp 43], argTypes := #[57, 57] }, type := 57, pos := "ref.go:52", after := #[{ on := 1, ground := Go.Ground.data }, { on := 5, ground := Go.Ground.data }], guard := none }) rfl (fun K hK => ?_) ?_
      · obtain ⟨a1, c1', w6, hrun, HROW1, HB2, HKP6⟩ := d7_app0 57 HJ2.out HB1.out HROW.out hn
        obtain ⟨hk2, ck2'⟩ := HK7.out _ HB2.out
        have ck2 : w6.cell? ⟨b, 1, none⟩ = some (.slice ax rs.length cp) := ck2'
        clear ck2'
        refine step_append_run (by rfl) (.tmp 39) (.tmp 43) 57 rfl _ _ _ rfl rfl hrun ?_
        refine hK.out _ _ ?_ (fun hH => ?_)
        · exact hk2
        clear hK K
        try simp only [Act.put, List.setIfInBounds_toArray, List.set_cons_zero, List.set_cons_succ]
        refine wpAnyH_ready (rs := [8]) (by kernel_rfl) (by simp) ?_
        refine AllReadyH.cons (o := { dst := some 46, op := Go.Op.buildSlice 57 1 #[(0, Go.Operand.tmp 45)], type := 57, pos := "ref.go:52", after := #[{ on := 7, ground := Go.Ground.data }], guard := none }) rfl (fun K hK => ?_) ?_
        · go_simp
          have HB3 : Hid (Below w2.heap.size w2 (w6.alloc (.cells #[.int .i64 o, .int .i64 n, .slice a' us.length c'] 43))) := Lib.hid (Below.step HB2.out (.cells #[.int .i64 o, .int .i64 n, .slice a' us.length c'] 43) (Below.refl _ _))
          obtain ⟨hk3, ck3'⟩ := HK7.out _ HB3.out
          have ck3 : (w6.alloc (.cells #[.int .i64 o, .int .i64 n, .slice a' us.length c'] 43)).cell? ⟨b, 1, none⟩ = some (.slice ax rs.length cp) := ck3'
          clear ck3'
          have HONE : Hid (RsAt (w6.alloc (.cells #[.int .i64 o, .int .i64 n, .slice a' us.length c'] 43)) (some ⟨w6.heap.size, 0, none⟩) 1 [⟨o, n, a', us.length, c', us⟩]) := Lib.hid (by
            have := rsAt_one w6 ⟨o, n, a', us.length, c', us⟩
            exact this)
          have HROW1 := Lib.hid (HROW1.out.alloc (.cells #[.int .i64 o, .int .i64 n, .slice a' us.length c'] 43))
          refine hK.out _ _ ?_ (fun hH => ?_)
          · exact hk3
          clear hK K
          try simp only [Act.put, List.setIfInBounds_toArray, List.set_cons_zero, List.set_cons_succ]
          refine wpAnyH_ready (rs := [9]) (by kernel_rfl) (by simp) ?_
          refine AllReadyH.cons (o := { dst := some 47, op := Go.Op.call { callee := Go.Callee.builtin Go.Builtin.append, args := #[Go.Operand.tmp 44, Go.Operand.tmp 46], argTypes := #[57, 57] }, type := 57, pos := "ref.go:52", after := #[{ on := 6, ground := Go.Ground.data }, { on := 8, ground := Go.Ground.data }, { on := 6, ground := Go.Ground.chain }], guard := none }) rfl (fun K hK => ?_) ?_
          · obtain ⟨a2, c2, w8, hrun9, HROW2, HB8⟩ := d7_app1 57 HB3.out HROW1.out HONE.out hn
            obtain ⟨hk9, ck9⟩ := HK7.out _ HB8.out
            refine step_append_run (by rfl) (.tmp 44) (.tmp 46) 57 rfl _ _ _ rfl rfl hrun9 ?_
            refine hK.out _ _ ?_ (fun hH => ?_)
            · exact hk9
            clear hK K
            try simp only [Act.put, List.setIfInBounds_toArray, List.set_cons_zero, List.set_cons_succ]
            refine wpAnyH_take (i := 10) (oi := { dst := some 48, op := Go.Op.nilCheck (Go.Operand.tmp 38), type := 0, pos := "ref.go:52", after := #[{ on := 0, ground := Go.Ground.data }, { on := 0, ground := Go.Ground.phase }, { on := 1, ground := Go.Ground.phase }, { on := 2, ground := Go.Ground.phase }, { on := 3, ground := Go.Ground.phase }, { on := 4, ground := Go.Ground.phase }, { on := 5, ground := Go.Ground.phase }, { on := 6, ground := Go.Ground.phase }, { on := 7, ground := Go.Ground.phase }, { on := 8, ground := Go.Ground.phase }, { on := 9, ground := Go.Ground.phase }], guard := none }) (v := ?_) rfl (by kernel_rfl) (by kernel_rfl) (by kernel_rfl) (fun _ _ _ h => h) (Or.inl ⟨by rfl, ?_⟩) (by assumption) ?_
            rotate_left
            · intro w hSw
              try dsimp only at hSw
              obtain ⟨q0, q1, q2⟩ := hSw
              go_simp
              all_goals with_reducible rfl
            try simp only [Act.put, List.setIfInBounds_toArray, List.set_cons_zero, List.set_cons_succ]
            refine wpAnyH_take (i := 11) (oi := { dst := some 49, op := Go.Op.fieldAddr 78 (Go.Operand.tmp 48) 1, type := 0, pos := "ref.go:52", after := #[{ on := 10, ground := Go.Ground.data }, { on := 0, ground := Go.Ground.phase }, { on := 1, ground := Go.Ground.phase }, { on := 2, ground := Go.Ground.phase }, { on := 3, ground := Go.Ground.phase }, { on := 4, ground := Go.Ground.phase }, { on := 5, ground := Go.Ground.phase }, { on := 6, ground := Go.Ground.phase }, { on := 7, ground := Go.Ground.phase }, { on := 8, ground := Go.Ground.phase }, { on := 9, ground := Go.Ground.phase }], guard := none }) (v := ?_) rfl (by kernel_rfl) (by kernel_rfl) (by kernel_rfl) (fun _ _ _ h => h) (Or.inl ⟨by rfl, ?_⟩) (by assumption) ?_
            rotate_left
            · intro w hSw
              try dsimp only at hSw
              obtain ⟨q0, q1, q2⟩ := hSw
              go_simp
              all_goals with_reducible rfl
            try simp only [Act.put, List.setIfInBounds_toArray, List.set_cons_zero, List.set_cons_succ]
            refine wpAnyH_ready (rs := [12]) (by kernel_rfl) (by simp) ?_
            refine AllReadyH.cons (o := { dst := none, op := Go.Op.store 57 (Go.Operand.tmp 49) (Go.Operand.tmp 47), type := 0, pos := "ref.go:52", after := #[{ on := 11, ground := Go.Ground.data }, { on := 9, ground := Go.Ground.data }, { on := 9, ground := Go.Ground.chain }, { on := 0, ground := Go.Ground.phase }, { on := 1, ground := Go.Ground.phase }, { on := 2, ground := Go.Ground.phase }, { on := 3, ground := Go.Ground.phase }, { on := 4, ground := Go.Ground.phase }, { on := 5, ground := Go.Ground.phase }, { on := 6, ground := Go.Ground.phase }, { on := 7, ground := Go.Ground.phase }, { on := 8, ground := Go.Ground.phase }, { on := 9, ground := Go.Ground.phase }], guard := none }) rfl (fun K hK => ?_) ?_
            · have hrb9 := (HRB2.out.next HB8.out).setnew HRBb.out 1 (.slice a2 (rs.length + 1) c2)
              have hs9 : (w8.setCell ⟨b, 1, none⟩ (.slice a2 (rs.length + 1) c2)).cell? ⟨w.heap.size, 0, none⟩ = some (.int .i64 o) ∧ (w8.setCell ⟨b, 1, none⟩ (.slice a2 (rs.length + 1) c2)).cell? ⟨w.heap.size, 1, none⟩ = some (.int .i64 n) ∧ (w8.setCell ⟨b, 1, none⟩ (.slice a2 (rs.length + 1) c2)).cell? ⟨w.heap.size, 2, none⟩ = some (.slice a' us.length c') := ⟨hrb9.c0, hrb9.c1, hrb9.c2⟩
              have gb := (HJ2.out.next HB8.out).f0 1
              clear hrb9
              go_simp
              refine hK.out _ _ ?_ (fun hH => ?_)
              · exact hs9
              clear hK K
              try simp only [Act.put, List.setIfInBounds_toArray, List.set_cons_zero, List.set_cons_succ]
              refine wpAnyH_done (by kernel_rfl) ?_ _
              obtain ⟨d0, d1, d2⟩ := hs9
              obtain ⟨F', x1, x2, x3⟩ := cd_done HJ.out HP.out HE.out HS.out HG.out HC1.out.1 HC1.out.2 HSM.out HCE.out HA2.out HRU2.out HB8.out HROW2.out
              have HX := Lib.hid (And.intro x1 (And.intro x2 x3))
              clear x1 x2 x3 HK7
              go_wp2
              go_ret
              exact ⟨rfl, F', HX.out⟩
            exact AllReadyH.nil
          exact AllReadyH.nil
        exact AllReadyH.nil
      refine AllReadyH.cons (o := { dst := some 46, op := Go.Op.buildSlice 57 1 #[(0, Go.Operand.tmp 45)], type := 57, pos := "ref.go:52", after := #[{ on := 7, ground := Go.Ground.data }], guard := none }) rfl (fun K hK => ?_) ?_
      · go_simp
        have HB2 : Hid (Below w2.heap.size w2 ((w2.drew.alloc (.cells #[] 43)).alloc (.cells #[.int .i64 o, .int .i64 n, .slice a' us.length c'] 43))) := Lib.hid (Below.step HB1.out (.cells #[.int .i64 o, .int .i64 n, .slice a' us.length c'] 43) (Below.refl _ _))
        obtain ⟨hk2, ck2'⟩ := HK7.out _ HB2.out
        have ck2 : ((w2.alloc (.cells #[] 43)).alloc (.cells #[.int .i64 o, .int .i64 n, .slice a' us.length c'] 43)).cell? ⟨b, 1, none⟩ = some (.slice ax rs.length cp) := ck2'
        clear ck2'
        have HONE : Hid (RsAt ((w2.drew.alloc (.cells #[] 43)).alloc (.cells #[.int .i64 o, .int .i64 n, .slice a' us.length c'] 43)) (some ⟨w2.heap.size + 1, 0, none⟩) 1 [⟨o, n, a', us.length, c', us⟩]) := Lib.hid (by
          have := rsAt_one (w2.drew.alloc (.cells #[] 43)) ⟨o, n, a', us.length, c', us⟩
          rw [show (w2.drew.alloc (.cells #[] 43)).heap.size = w2.heap.size + 1 by simp] at this
          exact this)
        have HROW := Lib.hid (HROW.out.alloc (.cells #[.int .i64 o, .int .i64 n, .slice a' us.length c'] 43))
        refine hK.out _ _ ?_ (fun hH => ?_)
        · exact hk2
        clear hK K
        try simp only [Act.put, List.setIfInBounds_toArray, List.set_cons_zero, List.set_cons_succ]
        refine wpAnyH_ready (rs := [6]) (by kernel_rfl) (by simp) ?_
        refine AllReadyH.cons (o := { dst := some 44, op := Go.Op.call { callee := Go.Callee.builtin Go.Builtin.append, args := #[Go.Operand.tmp 39, Go.Operand.tmp 43], argTypes := #[57, 57] }, type := 57, pos := "ref.go:52", after := #[{ on := 1, ground := Go.Ground.data }, { on := 5, ground := Go.Ground.data }], guard := none }) rfl (fun K hK => ?_) ?_
        · obtain ⟨a1, c1', w6, hrun, HROW1, HB3, HKP6⟩ := d7_app0 57 HJ2.out HB2.out HROW.out hn
          obtain ⟨hk3, ck3'⟩ := HK7.out _ HB3.out
          have ck3 : w6.cell? ⟨b, 1, none⟩ = some (.slice ax rs.length cp) := ck3'
          clear ck3'
          have HONE := Lib.hid (rsOne_kept HONE.out HKP6.out (by omega))
          refine step_append_run (by rfl) (.tmp 39) (.tmp 43) 57 rfl _ _ _ rfl rfl hrun ?_
          refine hK.out _ _ ?_ (fun hH => ?_)
          · exact hk3
          clear hK K
          try simp only [Act.put, List.setIfInBounds_toArray, List.set_cons_zero, List.set_cons_succ]
          refine wpAnyH_ready (rs := [9]) (by kernel_rfl) (by simp) ?_
          refine AllReadyH.cons (o := { dst := some 47, op := Go.Op.call { callee := Go.Callee.builtin Go.Builtin.append, args := #[Go.Operand.tmp 44, Go.Operand.tmp 46], argTypes := #[57, 57] }, type := 57, pos := "ref.go:52", after := #[{ on := 6, ground := Go.Ground.data }, { on := 8, ground := Go.Ground.data }, { on := 6, ground := Go.Ground.chain }], guard := none }) rfl (fun K hK => ?_) ?_
          · obtain ⟨a2, c2, w8, hrun9, HROW2, HB8⟩ := d7_app1 57 HB3.out HROW1.out HONE.out hn
            obtain ⟨hk9, ck9⟩ := HK7.out _ HB8.out
            refine step_append_run (by rfl) (.tmp 44) (.tmp 46) 57 rfl _ _ _ rfl rfl hrun9 ?_
            refine hK.out _ _ ?_ (fun hH => ?_)
            · exact hk9
            clear hK K
            try simp only [Act.put, List.setIfInBounds_toArray, List.set_cons_zero, List.set_cons_succ]
            refine wpAnyH_take (i := 10) (oi := { dst := some 48, op := Go.Op.nilCheck (Go.Operand.tmp 38), type := 0, pos := "ref.go:52", after := #[{ on := 0, ground := Go.Ground.data }, { on := 0, ground := Go.Ground.phase }, { on := 1, ground := Go.Ground.phase }, { on := 2, ground := Go.Ground.phase }, { on := 3, ground := Go.Ground.phase }, { on := 4, ground := Go.Ground.phase }, { on := 5, ground := Go.Ground.phase }, { on := 6, ground := Go.Ground.phase }, { on := 7, ground := Go.Ground.phase }, { on := 8, ground := Go.Ground.phase }, { on := 9, ground := Go.Ground.phase }], guard := none }) (v := ?_) rfl (by kernel_rfl) (by kernel_rfl) (by kernel_rfl) (fun _ _ _ h => h) (Or.inl ⟨by rfl, ?_⟩) (by assumption) ?_
            rotate_left
            · intro w hSw
              try dsimp only at hSw
              obtain ⟨q0, q1, q2⟩ := hSw
              go_simp
              all_goals with_reducible rfl
            try simp only [Act.put, List.setIfInBounds_toArray, List.set_cons_zero, List.set_cons_succ]
            refine wpAnyH_take (i := 11) (oi := { dst := some 49, op := Go.Op.fieldAddr 78 (Go.Operand.tmp 48) 1, type := 0, pos := "ref.go:52", after := #[{ on := 10, ground := Go.Ground.data }, { on := 0, ground := Go.Ground.phase }, { on := 1, ground := Go.Ground.phase }, { on := 2, ground := Go.Ground.phase }, { on := 3, ground := Go.Ground.phase }, { on := 4, ground := Go.Ground.phase }, { on := 5, ground := Go.Ground.phase }, { on := 6, ground := Go.Ground.phase }, { on := 7, ground := Go.Ground.phase }, { on := 8, ground := Go.Ground.phase }, { on := 9, ground := Go.Ground.phase }], guard := none }) (v := ?_) rfl (by kernel_rfl) (by kernel_rfl) (by kernel_rfl) (fun _ _ _ h => h) (Or.inl ⟨by rfl, ?_⟩) (by assumption) ?_
            rotate_left
            · intro w hSw
              try dsimp only at hSw
              obtain ⟨q0, q1, q2⟩ := hSw
              go_simp
              all_goals with_reducible rfl
            try simp only [Act.put, List.setIfInBounds_toArray, List.set_cons_zero, List.set_cons_succ]
            refine wpAnyH_ready (rs := [12]) (by kernel_rfl) (by simp) ?_
            refine AllReadyH.cons (o := { dst := none, op := Go.Op.store 57 (Go.Operand.tmp 49) (Go.Operand.tmp 47), type := 0, pos := "ref.go:52", after := #[{ on := 11, ground := Go.Ground.data }, { on := 9, ground := Go.Ground.data }, { on := 9, ground := Go.Ground.chain }, { on := 0, ground := Go.Ground.phase }, { on := 1, ground := Go.Ground.phase }, { on := 2, ground := Go.Ground.phase }, { on := 3, ground := Go.Ground.phase }, { on := 4, ground := Go.Ground.phase }, { on := 5, ground := Go.Ground.phase }, { on := 6, ground := Go.Ground.phase }, { on := 7, ground := Go.Ground.phase }, { on := 8, ground := Go.Ground.phase }, { on := 9, ground := Go.Ground.phase }], guard := none }) rfl (fun K hK => ?_) ?_
            · have hrb9 := (HRB2.out.next HB8.out).setnew HRBb.out 1 (.slice a2 (rs.length + 1) c2)
              have hs9 : (w8.setCell ⟨b, 1, none⟩ (.slice a2 (rs.length + 1) c2)).cell? ⟨w.heap.size, 0, none⟩ = some (.int .i64 o) ∧ (w8.setCell ⟨b, 1, none⟩ (.slice a2 (rs.length + 1) c2)).cell? ⟨w.heap.size, 1, none⟩ = some (.int .i64 n) ∧ (w8.setCell ⟨b, 1, none⟩ (.slice a2 (rs.length + 1) c2)).cell? ⟨w.heap.size, 2, none⟩ = some (.slice a' us.length c') := ⟨hrb9.c0, hrb9.c1, hrb9.c2⟩
              have gb := (HJ2.out.next HB8.out).f0 1
              clear hrb9
              go_simp
              refine hK.out _ _ ?_ (fun hH => ?_)
              · exact hs9
              clear hK K
              try simp only [Act.put, List.setIfInBounds_toArray, List.set_cons_zero, List.set_cons_succ]
              refine wpAnyH_done (by kernel_rfl) ?_ _
              obtain ⟨d0, d1, d2⟩ := hs9
              obtain ⟨F', x1, x2, x3⟩ := cd_done HJ.out HP.out HE.out HS.out HG.out HC1.out.1 HC1.out.2 HSM.out HCE.out HA2.out HRU2.out HB8.out HROW2.out
              have HX := Lib.hid (And.intro x1 (And.intro x2 x3))
              clear x1 x2 x3 HK7
              go_wp2
              go_ret
              exact ⟨rfl, F', HX.out⟩
            exact AllReadyH.nil
          exact AllReadyH.nil
        exact AllReadyH.nil
      exact AllReadyH.nil
    refine AllReadyH.cons (o := { dst := some 46, op := Go.Op.buildSlice 57 1 #[(0, Go.Operand.tmp 45)], type := 57, pos := "ref.go:52", after := #[{ on := 7, ground := Go.Ground.data }], guard := none }) rfl (fun K hK => ?_) ?_
    · go_simp
      have HB1 : Hid (Below w2.heap.size w2 (w2.drew.alloc (.cells #[.int .i64 o, .int .i64 n, .slice a' us.length c'] 43))) := Lib.hid (Below.step HB0.out (.cells #[.int .i64 o, .int .i64 n, .slice a' us.length c'] 43) (Below.refl _ _))
      obtain ⟨hk1, ck1'⟩ := HK7.out _ HB1.out
      have ck1 : (w2.alloc (.cells #[.int .i64 o, .int .i64 n, .slice a' us.length c'] 43)).cell? ⟨b, 1, none⟩ = some (.slice ax rs.length cp) := ck1'
      clear ck1'
      have HONE : Hid (RsAt (w2.drew.alloc (.cells #[.int .i64 o, .int .i64 n, .slice a' us.length c'] 43)) (some ⟨w2.heap.size, 0, none⟩) 1 [⟨o, n, a', us.length, c', us⟩]) := Lib.hid (by
        have := rsAt_one w2.drew ⟨o, n, a', us.length, c', us⟩
        rw [show w2.drew.heap.size = w2.heap.size by simp] at this
        exact this)
      refine hK.out _ _ ?_ (fun hH => ?_)
      · exact hk1
      clear hK K
      try simp only [Act.put, List.setIfInBounds_toArray, List.set_cons_zero, List.set_cons_succ]
      refine wpAnyH_ready (rs := [1]) (by kernel_rfl) (by simp) ?_
      refine AllReadyH.cons (o := { dst := some 39, op := Go.Op.buildSlice 57 0 #[], type := 57, pos := "ref.go:52", after := #[], guard := none }) rfl (fun K hK => ?_) ?_
      · go_simp
        have HB2 : Hid (Below w2.heap.size w2 ((w2.drew.alloc (.cells #[.int .i64 o, .int .i64 n, .slice a' us.length c'] 43)).alloc (.cells #[] 43))) := Lib.hid (Below.step HB1.out (.cells #[] 43) (Below.refl _ _))
        obtain ⟨hk2, ck2'⟩ := HK7.out _ HB2.out
        have ck2 : ((w2.alloc (.cells #[.int .i64 o, .int .i64 n, .slice a' us.length c'] 43)).alloc (.cells #[] 43)).cell? ⟨b, 1, none⟩ = some (.slice ax rs.length cp) := ck2'
        clear ck2'
        have HROW : Hid (RowR w2.heap.size ((w2.drew.alloc (.cells #[.int .i64 o, .int .i64 n, .slice a' us.length c'] 43)).alloc (.cells #[] 43)) (.slice (some ⟨w2.heap.size + 1, 0, none⟩) 0 0) []) := Lib.hid (by
          have := (rowR_new (w2.drew.alloc (.cells #[.int .i64 o, .int .i64 n, .slice a' us.length c'] 43))).lower (show w2.heap.size ≤ (w2.drew.alloc (.cells #[.int .i64 o, .int .i64 n, .slice a' us.length c'] 43)).heap.size by simp)
          rw [show (w2.drew.alloc (.cells #[.int .i64 o, .int .i64 n, .slice a' us.length c'] 43)).heap.size = w2.heap.size + 1 by simp] at this
          exact this)
        have HONE := Lib.hid (rsOne_kept (q := w2.heap.size + 1) (w5 := ((w2.drew.alloc (.cells #[.int .i64 o, .int .i64 n, .slice a' us.length c'] 43)).alloc (.cells #[] 43))) HONE.out (fun k hk _ => Below.heap_alloc _ _ _ hk) (by omega))
        refine hK.out _ _ ?_ (fun hH => ?_)
        · exact hk2
        clear hK K
        try simp only [Act.put, List.setIfInBounds_toArray, List.set_cons_zero, List.set_cons_succ]
        refine wpAnyH_ready (rs := [6]) (by kernel_rfl) (by simp) ?_
        refine AllReadyH.cons (o := { dst := some 44, op := Go.Op.call { callee := Go.Callee.builtin Go.Builtin.append, args := #[Go.Operand.tmp 39, Go.Operand.tmp 43], argTypes := #[57, 57] }, type := 57, pos := "ref.go:52", after := #[{ on := 1, ground := Go.Ground.data }, { on := 5, ground := Go.Ground.data }], guard := none }) rfl (fun K hK => ?_) ?_
        · obtain ⟨a1, c1', w6, hrun, HROW1, HB3, HKP6⟩ := d7_app0 57 HJ2.out HB2.out HROW.out hn
          obtain ⟨hk3, ck3'⟩ := HK7.out _ HB3.out
          have ck3 : w6.cell? ⟨b, 1, none⟩ = some (.slice ax rs.length cp) := ck3'
          clear ck3'
          have HONE := Lib.hid (rsOne_kept HONE.out HKP6.out (by omega))
          refine step_append_run (by rfl) (.tmp 39) (.tmp 43) 57 rfl _ _ _ rfl rfl hrun ?_
          refine hK.out _ _ ?_ (fun hH => ?_)
          · exact hk3
          clear hK K
          try simp only [Act.put, List.setIfInBounds_toArray, List.set_cons_zero, List.set_cons_succ]
          refine wpAnyH_ready (rs := [9]) (by kernel_rfl) (by simp) ?_
          refine AllReadyH.cons (o := { dst := some 47, op := Go.Op.call { callee := Go.Callee.builtin Go.Builtin.append, args := #[Go.Operand.tmp 44, Go.Operand.tmp 46], argTypes := #[57, 57] }, type := 57, pos := "ref.go:52", after := #[{ on := 6, ground := Go.Ground.data }, { on := 8, ground := Go.Ground.data }, { on := 6, ground := Go.Ground.chain }], guard := none }) rfl (fun K hK => ?_) ?_
          · obtain ⟨a2, c2, w8, hrun9, HROW2, HB8⟩ := d7_app1 57 HB3.out HROW1.out HONE.out hn
            obtain ⟨hk9, ck9⟩ := HK7.out _ HB8.out
            refine step_append_run (by rfl) (.tmp 44) (.tmp 46) 57 rfl _ _ _ rfl rfl hrun9 ?_
            refine hK.out _ _ ?_ (fun hH => ?_)
            · exact hk9
            clear hK K
            try simp only [Act.put, List.setIfInBounds_toArray, List.set_cons_zero, List.set_cons_succ]
            refine wpAnyH_take (i := 10) (oi := { dst := some 48, op := Go.Op.nilCheck (Go.Operand.tmp 38), type := 0, pos := "ref.go:52", after := #[{ on := 0, ground := Go.Ground.data }, { on := 0, ground := Go.Ground.phase }, { on := 1, ground := Go.Ground.phase }, { on := 2, ground := Go.Ground.phase }, { on := 3, ground := Go.Ground.phase }, { on := 4, ground := Go.Ground.phase }, { on := 5, ground := Go.Ground.phase }, { on := 6, ground := Go.Ground.phase }, { on := 7, ground := Go.Ground.phase }, { on := 8, ground := Go.Ground.phase }, { on := 9, ground := Go.Ground.phase }], guard := none }) (v := ?_) rfl (by kernel_rfl) (by kernel_rfl) (by kernel_rfl) (fun _ _ _ h => h) (Or.inl ⟨by rfl, ?_⟩) (by assumption) ?_
            rotate_left
            · intro w hSw
              try dsimp only at hSw
              obtain ⟨q0, q1, q2⟩ := hSw
              go_simp
              all_goals with_reducible rfl
            try simp only [Act.put, List.setIfInBounds_toArray, List.set_cons_zero, List.set_cons_succ]
            refine wpAnyH_take (i := 11) (oi := { dst := some 49, op := Go.Op.fieldAddr 78 (Go.Operand.tmp 48) 1, type := 0, pos := "ref.go:52", after := #[{ on := 10, ground := Go.Ground.data }, { on := 0, ground := Go.Ground.phase }, { on := 1, ground := Go.Ground.phase }, { on := 2, ground := Go.Ground.phase }, { on := 3, ground := Go.Ground.phase }, { on := 4, ground := Go.Ground.phase }, { on := 5, ground := Go.Ground.phase }, { on := 6, ground := Go.Ground.phase }, { on := 7, ground := Go.Ground.phase }, { on := 8, ground := Go.Ground.phase }, { on := 9, ground := Go.Ground.phase }], guard := none }) (v := ?_) rfl (by kernel_rfl) (by kernel_rfl) (by kernel_rfl) (fun _ _ _ h => h) (Or.inl ⟨by rfl, ?_⟩) (by assumption) ?_
            rotate_left
            · intro w hSw
              try dsimp only at hSw
              obtain ⟨q0, q1, q2⟩ := hSw
              go_simp
              all_goals with_reducible rfl
            try simp only [Act.put, List.setIfInBounds_toArray, List.set_cons_zero, List.set_cons_succ]
            refine wpAnyH_ready (rs := [12]) (by kernel_rfl) (by simp) ?_
            refine AllReadyH.cons (o := { dst := none, op := Go.Op.store 57 (Go.Operand.tmp 49) (Go.Operand.tmp 47), type := 0, pos := "ref.go:52", after := #[{ on := 11, ground := Go.Ground.data }, { on := 9, ground := Go.Ground.data }, { on := 9, ground := Go.Ground.chain }, { on := 0, ground := Go.Ground.phase }, { on := 1, ground := Go.Ground.phase }, { on := 2, ground := Go.Ground.phase }, { on := 3, ground := Go.Ground.phase }, { on := 4, ground := Go.Ground.phase }, { on := 5, ground := Go.Ground.phase }, { on := 6, ground := Go.Ground.phase }, { on := 7, ground := Go.Ground.phase }, { on := 8, ground := Go.Ground.phase }, { on := 9, ground := Go.Ground.phase }], guard := none }) rfl (fun K hK => ?_) ?_
            · have hrb9 := (HRB2.out.next HB8.out).setnew HRBb.out 1 (.slice a2 (rs.length + 1) c2)
              have hs9 : (w8.setCell ⟨b, 1, none⟩ (.slice a2 (rs.length + 1) c2)).cell? ⟨w.heap.size, 0, none⟩ = some (.int .i64 o) ∧ (w8.setCell ⟨b, 1, none⟩ (.slice a2 (rs.length + 1) c2)).cell? ⟨w.heap.size, 1, none⟩ = some (.int .i64 n) ∧ (w8.setCell ⟨b, 1, none⟩ (.slice a2 (rs.length + 1) c2)).cell? ⟨w.heap.size, 2, none⟩ = some (.slice a' us.length c') := ⟨hrb9.c0, hrb9.c1, hrb9.c2⟩
              have gb := (HJ2.out.next HB8.out).f0 1
              clear hrb9
              go_simp
              refine hK.out _ _ ?_ (fun hH => ?_)
              · exact hs9
              clear hK K
              try simp only [Act.put, List.setIfInBounds_toArray, List.set_cons_zero, List.set_cons_succ]
              refine wpAnyH_done (by kernel_rfl) ?_ _
              obtain ⟨d0, d1, d2⟩ := hs9
              obtain ⟨F', x1, x2, x3⟩ := cd_done HJ.out HP.out HE.out HS.out HG.out HC1.out.1 HC1.out.2 HSM.out HCE.out HA2.out HRU2.out HB8.out HROW2.out
              have HX := Lib.hid (And.intro x1 (And.intro x2 x3))
              clear x1 x2 x3 HK7
              go_wp2
              go_ret
              exact ⟨rfl, F', HX.out⟩
            exact AllReadyH.nil
          exact AllReadyH.nil
        exact AllReadyH.nil
      exact AllReadyH.nil
    exact AllReadyH.nil
  refine AllReadyH.cons (o := { dst := some 46, op := Go.Op.buildSlice 57 1 #[(0, Go.Operand.tmp 45)], type := 57, pos := "ref.go:52", after := #[{ on := 7, ground := Go.Ground.data }], guard := none }) rfl (fun K hK => ?_) ?_
  · go_simp
    have HB1 : Hid (Below w2.heap.size w2 (w2.drew.alloc (.cells #[.int .i64 o, .int .i64 n, .slice a' us.length c'] 43))) := Lib.hid (Below.step HB0.out (.cells #[.int .i64 o, .int .i64 n, .slice a' us.length c'] 43) (Below.refl _ _))
    obtain ⟨hk1, ck1'⟩ := HK7.out _ HB1.out
    have ck1 : (w2.alloc (.cells #[.int .i64 o, .int .i64 n, .slice a' us.length c'] 43)).cell? ⟨b, 1, none⟩ = some (.slice ax rs.length cp) := ck1'
    clear ck1'
    have HONE : Hid (RsAt (w2.drew.alloc (.cells #[.int .i64 o, .int .i64 n, .slice a' us.length c'] 43)) (some ⟨w2.heap.size, 0, none⟩) 1 [⟨o, n, a', us.length, c', us⟩]) := Lib.hid (by
      have := rsAt_one w2.drew ⟨o, n, a', us.length, c', us⟩
      rw [show w2.drew.heap.size = w2.heap.size by simp] at this
      exact this)
    refine hK.out _ _ ?_ (fun hH => ?_)
    · exact hk1
    clear hK K
    try simp only [Act.put, List.setIfInBounds_toArray, List.set_cons_zero, List.set_cons_succ]
    refine wpAnyH_ready (rs := [1, 5]) (by kernel_rfl) (by simp) ?_
    refine AllReadyH.cons (o := { dst := some 39, op := Go.Op.buildSlice 57 0 #[], type := 57, pos := "ref.go:52", after := #[], guard := none }) rfl (fun K hK => ?_) ?_
    · go_simp
      have HB2 : Hid (Below w2.heap.size w2 ((w2.drew.alloc (.cells #[.int .i64 o, .int .i64 n, .slice a' us.length c'] 43)).alloc (.cells #[] 43))) := Lib.hid (Below.step HB1.out (.cells #[] 43) (Below.refl _ _))
      obtain ⟨hk2, ck2'⟩ := HK7.out _ HB2.out
      have ck2 : ((w2.alloc (.cells #[.int .i64 o, .int .i64 n, .slice a' us.length c'] 43)).alloc (.cells #[] 43)).cell? ⟨b, 1, none⟩ = some (.slice ax rs.length cp) := ck2'
      clear ck2'
      have HROW : Hid (RowR w2.heap.size ((w2.drew.alloc (.cells #[.int .i64 o, .int .i64 n, .slice a' us.length c'] 43)).alloc (.cells #[] 43)) (.slice (some ⟨w2.heap.size + 1, 0, none⟩) 0 0) []) := Lib.hid (by
        have := (rowR_new (w2.drew.alloc (.cells #[.int .i64 o, .int .i64 n, .slice a' us.length c'] 43))).lower (show w2.heap.size ≤ (w2.drew.alloc (.cells #[.int .i64 o, .int .i64 n, .slice a' us.length c'] 43)).heap.size by simp)
        rw [show (w2.drew.alloc (.cells #[.int .i64 o, .int .i64 n, .slice a' us.length c'] 43)).heap.size = w2.heap.size + 1 by simp] at this
        exact this)
      have HONE := Lib.hid (rsOne_kept (q := w2.heap.size + 1) (w5 := ((w2.drew.alloc (.cells #[.int .i64 o, .int .i64 n, .slice a' us.length c'] 43)).alloc (.cells #[] 43))) HONE.out (fun k hk _ => Below.heap_alloc _ _ _ hk) (by omega))
      refine hK.out _ _ ?_ (fun hH => ?_)
      · exact hk2
      clear hK K
      try simp only [Act.put, List.setIfInBounds_toArray, List.set_cons_zero, List.set_cons_succ]
      refine wpAnyH_ready (rs := [5]) (by kernel_rfl) (by simp) ?_
      refine AllReadyH.cons (o := { dst := some 43, op := Go.Op.load 57 (Go.Operand.tmp 42), type := 57, pos := "ref.go:52", after := #[{ on := 4, ground := Go.Ground.data }], guard := none }) rfl (fun K hK => ?_) ?_
      · go_simp
        refine hK.out _ _ ?_ (fun hH => ?_)
        · exact hk2
        clear hK K
        try simp only [Act.put, List.setIfInBounds_toArray, List.set_cons_zero, List.set_cons_succ]
        refine wpAnyH_ready (rs := [6]) (by kernel_rfl) (by simp) ?_
        refine AllReadyH.cons (o := { dst := some 44, op := Go.Op.call { callee := Go.Callee.builtin Go.Builtin.append, args := #[Go.Operand.tmp 39, Go.Operand.tmp 43], argTypes := #[57, 57] }, type := 57, pos := "ref.go:52", after := #[{ on := 1, ground := Go.Ground.data }, { on := 5, ground := Go.Ground.data }], guard := none }) rfl (fun K hK => ?_) ?_
        · obtain ⟨a1, c1', w6, hrun, HROW1, HB3, HKP6⟩ := d7_app0 57 HJ2.out HB2.out HROW.out hn
          obtain ⟨hk3, ck3'⟩ := HK7.out _ HB3.out
          have ck3 : w6.cell? ⟨b, 1, none⟩ = some (.slice ax rs.length cp) := ck3'
          clear ck3'
          have HONE := Lib.hid (rsOne_kept HONE.out HKP6.out (by omega))
          refine step_append_run (by rfl) (.tmp 39) (.tmp 43) 57 rfl _ _ _ rfl rfl hrun ?_
          refine hK.out _ _ ?_ (fun hH => ?_)
          · exact hk3
          clear hK K
          try simp only [Act.put, List.setIfInBounds_toArray, List.set_cons_zero, List.set_cons_succ]
          refine wpAnyH_ready (rs := [9]) (by kernel_rfl) (by simp) ?_
          refine AllReadyH.cons (o := { dst := some 47, op := Go.Op.call { callee := Go.Callee.builtin Go.Builtin.append, args := #[Go.Operand.tmp 44, Go.Operand.tmp 46], argTypes := #[57, 57] }, type := 57, pos := "ref.go:52", after := #[{ on := 6, ground := Go.Ground.data }, { on := 8, ground := Go.Ground.data }, { on := 6, ground := Go.Ground.chain }], guard := none }) rfl (fun K hK => ?_) ?_
          · obtain ⟨a2, c2, w8, hrun9, HROW2, HB8⟩ := d7_app1 57 HB3.out HROW1.out HONE.out hn
            obtain ⟨hk9, ck9⟩ := HK7.out _ HB8.out
            refine step_append_run (by rfl) (.tmp 44) (.tmp 46) 57 rfl _ _ _ rfl rfl hrun9 ?_
            refine hK.out _ _ ?_ (fun hH => ?_)
            · exact hk9
            clear hK K
            try simp only [Act.put, List.setIfInBounds_toArray, List.set_cons_zero, List.set_cons_succ]
            refine wpAnyH_take (i := 10) (oi := { dst := some 48, op := Go.Op.nilCheck (Go.Operand.tmp 38), type := 0, pos := "ref.go:52", after := #[{ on := 0, ground := Go.Ground.data }, { on := 0, ground := Go.Ground.phase }, { on := 1, ground := Go.Ground.phase }, { on := 2, ground := Go.Ground.phase }, { on := 3, ground := Go.Ground.phase }, { on := 4, ground := Go.Ground.phase }, { on := 5, ground := Go.Ground.phase }, { on := 6, ground := Go.Ground.phase }, { on := 7, ground := Go.Ground.phase }, { on := 8, ground := Go.Ground.phase }, { on := 9, ground := Go.Ground.phase }], guard := none }) (v := ?_) rfl (by kernel_rfl) (by kernel_rfl) (by kernel_rfl) (fun _ _ _ h => h) (Or.inl ⟨by rfl, ?_⟩) (by assumption) ?_
            rotate_left
            · intro w hSw
              try dsimp only at hSw
              obtain ⟨q0, q1, q2⟩ := hSw
              go_simp
              all_goals with_reducible rfl
            try simp only [Act.put, List.setIfInBounds_toArray, List.set_cons_zero, List.set_cons_succ]
            refine wpAnyH_take (i := 11) (oi := { dst := some 49, op := Go.Op.fieldAddr 78 (Go.Operand.tmp 48) 1, type := 0, pos := "ref.go:52", after := #[{ on := 10, ground := Go.Ground.data }, { on := 0, ground := Go.Ground.phase }, { on := 1, ground := Go.Ground.phase }, { on := 2, ground := Go.Ground.phase }, { on := 3, ground := Go.Ground.phase }, { on := 4, ground := Go.Ground.phase }, { on := 5, ground := Go.Ground.phase }, { on := 6, ground := Go.Ground.phase }, { on := 7, ground := Go.Ground.phase }, { on := 8, ground := Go.Ground.phase }, { on := 9, ground := Go.Ground.phase }], guard := none }) (v := ?_) rfl (by kernel_rfl) (by kernel_rfl) (by kernel_rfl) (fun _ _ _ h => h) (Or.inl ⟨by rfl, ?_⟩) (by assumption) ?_
            rotate_left
            · intro w hSw
              try dsimp only at hSw
              obtain ⟨q0, q1, q2⟩ := hSw
              go_simp
              all_goals with_reducible rfl
            try simp only [Act.put, List.setIfInBounds_toArray, List.set_cons_zero, List.set_cons_succ]
            refine wpAnyH_ready (rs := [12]) (by kernel_rfl) (by simp) ?_
            refine AllReadyH.cons (o := { dst := none, op := Go.Op.store 57 (Go.Operand.tmp 49) (Go.Operand.tmp 47), type := 0, pos := "ref.go:52", after := #[{ on := 11, ground := Go.Ground.data }, { on := 9, ground := Go.Ground.data }, { on := 9, ground := Go.Ground.chain }, { on := 0, ground := Go.Ground.phase }, { on := 1, ground := Go.Ground.phase }, { on := 2, ground := Go.Ground.phase }, { on := 3, ground := Go.Ground.phase }, { on := 4, ground := Go.Ground.phase }, { on := 5, ground := Go.Ground.phase }, { on := 6, ground := Go.Ground.phase }, { on := 7, ground := Go.Ground.phase }, { on := 8, ground := Go.Ground.phase }, { on := 9, ground := Go.Ground.phase }], guard := none }) rfl (fun K hK => ?_) ?_
            · have hrb9 := (HRB2.out.next HB8.out).setnew HRBb.out 1 (.slice a2 (rs.length + 1) c2)
              have hs9 : (w8.setCell ⟨b, 1, none⟩ (.slice a2 (rs.length + 1) c2)).cell? ⟨w.heap.size, 0, none⟩ = some (.int .i64 o) ∧ (w8.setCell ⟨b, 1, none⟩ (.slice a2 (rs.length + 1) c2)).cell? ⟨w.heap.size, 1, none⟩ = some (.int .i64 n) ∧ (w8.setCell ⟨b, 1, none⟩ (.slice a2 (rs.length + 1) c2)).cell? ⟨w.heap.size, 2, none⟩ = some (.slice a' us.length c') := ⟨hrb9.c0, hrb9.c1, hrb9.c2⟩
              have gb := (HJ2.out.next HB8.out).f0 1
              clear hrb9
              go_simp
              refine hK.out _ _ ?_ (fun hH => ?_)
              · exact hs9
              clear hK K
              try simp only [Act.put, List.setIfInBounds_toArray, List.set_cons_zero, List.set_cons_succ]
              refine wpAnyH_done (by kernel_rfl) ?_ _
              obtain ⟨d0, d1, d2⟩ := hs9
              obtain ⟨F', x1, x2, x3⟩ := cd_done HJ.out HP.out HE.out HS.out HG.out HC1.out.1 HC1.out.2 HSM.out HCE.out HA2.out HRU2.out HB8.out HROW2.out
              have HX := Lib.hid (And.intro x1 (And.intro x2 x3))
              clear x1 x2 x3 HK7
              go_wp2
              go_ret
              exact ⟨rfl, F', HX.out⟩
            exact AllReadyH.nil
          exact AllReadyH.nil
        exact AllReadyH.nil
      exact AllReadyH.nil
    refine AllReadyH.cons (o := { dst := some 43, op := Go.Op.load 57 (Go.Operand.tmp 42), type := 57, pos := "ref.go:52", after := #[{ on := 4, ground := Go.Ground.data }], guard := none }) rfl (fun K hK => ?_) ?_
    · go_simp
      refine hK.out _ _ ?_ (fun hH => ?_)
      · exact hk1
      clear hK K
      try simp only [Act.put, List.setIfInBounds_toArray, List.set_cons_zero, List.set_cons_succ]
      refine wpAnyH_ready (rs := [1]) (by kernel_rfl) (by simp) ?_
      refine AllReadyH.cons (o := { dst := some 39, op := Go.Op.buildSlice 57 0 #[], type := 57, pos := "ref.go:52", after := #[], guard := none }) rfl (fun K hK => ?_) ?_
      · go_simp
        have HB2 : Hid (Below w2.heap.size w2 ((w2.drew.alloc (.cells #[.int .i64 o, .int .i64 n, .slice a' us.length c'] 43)).alloc (.cells #[] 43))) := Lib.hid (Below.step HB1.out (.cells #[] 43) (Below.refl _ _))
        obtain ⟨hk2, ck2'⟩ := HK7.out _ HB2.out
        have ck2 : ((w2.alloc (.cells #[.int .i64 o, .int .i64 n, .slice a' us.length c'] 43)).alloc (.cells #[] 43)).cell? ⟨b, 1, none⟩ = some (.slice ax rs.length cp) := ck2'
        clear ck2'
        have HROW : Hid (RowR w2.heap.size ((w2.drew.alloc (.cells #[.int .i64 o, .int .i64 n, .slice a' us.length c'] 43)).alloc (.cells #[] 43)) (.slice (some ⟨w2.heap.size + 1, 0, none⟩) 0 0) []) := Lib.hid (by
          have := (rowR_new (w2.drew.alloc (.cells #[.int .i64 o, .int .i64 n, .slice a' us.length c'] 43))).lower (show w2.heap.size ≤ (w2.drew.alloc (.cells #[.int .i64 o, .int .i64 n, .slice a' us.length c'] 43)).heap.size by simp)
          rw [show (w2.drew.alloc (.cells #[.int .i64 o, .int .i64 n, .slice a' us.length c'] 43)).heap.size = w2.heap.size + 1 by simp] at this
          exact this)
        have HONE := Lib.hid (rsOne_kept (q := w2.heap.size + 1) (w5 := ((w2.drew.alloc (.cells #[.int .i64 o, .int .i64 n, .slice a' us.length c'] 43)).alloc (.cells #[] 43))) HONE.out (fun k hk _ => Below.heap_alloc _ _ _ hk) (by omega))
        refine hK.out _ _ ?_ (fun hH => ?_)
        · exact hk2
        clear hK K
        try simp only [Act.put, List.setIfInBounds_toArray, List.set_cons_zero, List.set_cons_succ]
        refine wpAnyH_ready (rs := [6]) (by kernel_rfl) (by simp) ?_
        refine AllReadyH.cons (o := { dst := some 44, op := Go.Op.call { callee := Go.Callee.builtin Go.Builtin.append, args := #[Go.Operand.tmp 39, Go.Operand.tmp 43], argTypes := #[57, 57] }, type := 57, pos := "ref.go:52", after := #[{ on := 1, ground := Go.Ground.data }, { on := 5, ground := Go.Ground.data }], guard := none }) rfl (fun K hK => ?_) ?_
        · obtain ⟨a1, c1', w6, hrun, HROW1, HB3, HKP6⟩ := d7_app0 57 HJ2.out HB2.out HROW.out hn
          obtain ⟨hk3, ck3'⟩ := HK7.out _ HB3.out
          have ck3 : w6.cell? ⟨b, 1, none⟩ = some (.slice ax rs.length cp) := ck3'
          clear ck3'
          have HONE := Lib.hid (rsOne_kept HONE.out HKP6.out (by omega))
          refine step_append_run (by rfl) (.tmp 39) (.tmp 43) 57 rfl _ _ _ rfl rfl hrun ?_
          refine hK.out _ _ ?_ (fun hH => ?_)
          · exact hk3
          clear hK K
          try simp only [Act.put, List.setIfInBounds_toArray, List.set_cons_zero, List.set_cons_succ]
          refine wpAnyH_ready (rs := [9]) (by kernel_rfl) (by simp) ?_
          refine AllReadyH.cons (o := { dst := some 47, op := Go.Op.call { callee := Go.Callee.builtin Go.Builtin.append, args := #[Go.Operand.tmp 44, Go.Operand.tmp 46], argTypes := #[57, 57] }, type := 57, pos := "ref.go:52", after := #[{ on := 6, ground := Go.Ground.data }, { on := 8, ground := Go.Ground.data }, { on := 6, ground := Go.Ground.chain }], guard := none }) rfl (fun K hK => ?_) ?_
          · obtain ⟨a2, c2, w8, hrun9, HROW2, HB8⟩ := d7_app1 57 HB3.out HROW1.out HONE.out hn
            obtain ⟨hk9, ck9⟩ := HK7.out _ HB8.out
            refine step_append_run (by rfl) (.tmp 44) (.tmp 46) 57 rfl _ _ _ rfl rfl hrun9 ?_
            refine hK.out _ _ ?_ (fun hH => ?_)
            · exact hk9
            clear hK K
            try simp only [Act.put, List.setIfInBounds_toArray, List.set_cons_zero, List.set_cons_succ]
            refine wpAnyH_take (i := 10) (oi := { dst := some 48, op := Go.Op.nilCheck (Go.Operand.tmp 38), type := 0, pos := "ref.go:52", after := #[{ on := 0, ground := Go.Ground.data }, { on := 0, ground := Go.Ground.phase }, { on := 1, ground := Go.Ground.phase }, { on := 2, ground := Go.Ground.phase }, { on := 3, ground := Go.Ground.phase }, { on := 4, ground := Go.Ground.phase }, { on := 5, ground := Go.Ground.phase }, { on := 6, ground := Go.Ground.phase }, { on := 7, ground := Go.Ground.phase }, { on := 8, ground := Go.Ground.phase }, { on := 9, ground := Go.Ground.phase }], guard := none }) (v := ?_) rfl (by kernel_rfl) (by kernel_rfl) (by kernel_rfl) (fun _ _ _ h => h) (Or.inl ⟨by rfl, ?_⟩) (by assumption) ?_
            rotate_left
            · intro w hSw
              try dsimp only at hSw
              obtain ⟨q0, q1, q2⟩ := hSw
              go_simp
              all_goals with_reducible rfl
            try simp only [Act.put, List.setIfInBounds_toArray, List.set_cons_zero, List.set_cons_succ]
            refine wpAnyH_take (i := 11) (oi := { dst := some 49, op := Go.Op.fieldAddr 78 (Go.Operand.tmp 48) 1, type := 0, pos := "ref.go:52", after := #[{ on := 10, ground := Go.Ground.data }, { on := 0, ground := Go.Ground.phase }, { on := 1, ground := Go.Ground.phase }, { on := 2, ground := Go.Ground.phase }, { on := 3, ground := Go.Ground.phase }, { on := 4, ground := Go.Ground.phase }, { on := 5, ground := Go.Ground.phase }, { on := 6, ground := Go.Ground.phase }, { on := 7, ground := Go.Ground.phase }, { on := 8, ground := Go.Ground.phase }, { on := 9, ground := Go.Ground.phase }], guard := none }) (v := ?_) rfl (by kernel_rfl) (by kernel_rfl) (by kernel_rfl) (fun _ _ _ h => h) (Or.inl ⟨by rfl, ?_⟩) (by assumption) ?_
            rotate_left
            · intro w hSw
              try dsimp only at hSw
              obtain ⟨q0, q1, q2⟩ := hSw
              go_simp
              all_goals with_reducible rfl
            try simp only [Act.put, List.setIfInBounds_toArray, List.set_cons_zero, List.set_cons_succ]
            refine wpAnyH_ready (rs := [12]) (by kernel_rfl) (by simp) ?_
            refine AllReadyH.cons (o := { dst := none, op := Go.Op.store 57 (Go.Operand.tmp 49) (Go.Operand.tmp 47), type := 0, pos := "ref.go:52", after := #[{ on := 11, ground := Go.Ground.data }, { on := 9, ground := Go.Ground.data }, { on := 9, ground := Go.Ground.chain }, { on := 0, ground := Go.Ground.phase }, { on := 1, ground := Go.Ground.phase }, { on := 2, ground := Go.Ground.phase }, { on := 3, ground := Go.Ground.phase }, { on := 4, ground := Go.Ground.phase }, { on := 5, ground := Go.Ground.phase }, { on := 6, ground := Go.Ground.phase }, { on := 7, ground := Go.Ground.phase }, { on := 8, ground := Go.Ground.phase }, { on := 9, ground := Go.Ground.phase }], guard := none }) rfl (fun K hK => ?_) ?_
            · have hrb9 := (HRB2.out.next HB8.out).setnew HRBb.out 1 (.slice a2 (rs.length + 1) c2)
              have hs9 : (w8.setCell ⟨b, 1, none⟩ (.slice a2 (rs.length + 1) c2)).cell? ⟨w.heap.size, 0, none⟩ = some (.int .i64 o) ∧ (w8.setCell ⟨b, 1, none⟩ (.slice a2 (rs.length + 1) c2)).cell? ⟨w.heap.size, 1, none⟩ = some (.int .i64 n) ∧ (w8.setCell ⟨b, 1, none⟩ (.slice a2 (rs.length + 1) c2)).cell? ⟨w.heap.size, 2, none⟩ = some (.slice a' us.length c') := ⟨hrb9.c0, hrb9.c1, hrb9.c2⟩
              have gb := (HJ2.out.next HB8.out).f0 1
              clear hrb9
              go_simp
              refine hK.out _ _ ?_ (fun hH => ?_)
              · exact hs9
              clear hK K
              try simp only [Act.put, List.setIfInBounds_toArray, List.set_cons_zero, List.set_cons_succ]
              refine wpAnyH_done (by kernel_rfl) ?_ _
              obtain ⟨d0, d1, d2⟩ := hs9
              obtain ⟨F', x1, x2, x3⟩ := cd_done HJ.out HP.out HE.out HS.out HG.out HC1.out.1 HC1.out.2 HSM.out HCE.out HA2.out HRU2.out HB8.out HROW2.out
              have HX := Lib.hid (And.intro x1 (And.intro x2 x3))
              clear x1 x2 x3 HK7
              go_wp2
              go_ret
              exact ⟨rfl, F', HX.out⟩
            exact AllReadyH.nil
          exact AllReadyH.nil
        exact AllReadyH.nil
      exact AllReadyH.nil
    exact AllReadyH.nil
  exact AllReadyH.nil
theorem dadd_any (hn : L.length ≤ 1000) (r : Rn) (hsm : Sm r.us) (w : World) (hu : Ru w r) (h : Cx 78 Pd B w b F c L) :
    Calls Tryd.prog 20 #[.pointer (some ⟨b, 0, none⟩), rv r] w fun e w' => e = .returned (.int .i64 (comE c L (kR r))) ∧ ∃ F', ComW 78 Pd B w w' b F F' c L (kR r) := by
  obtain ⟨o, n, a, len, cap, us⟩ := r
  by_cases he : comE c L (o, n, us) = 0
  · refine (cd_ok hn o n a len cap us w hu.1 h hsm he hu.2.1 hu.2.2).mono ?_
    rintro e w1 ⟨rfl, F', x1, x2, x3⟩
    have e2 : comE c L (kR ⟨o, n, a, len, cap, us⟩) = 0 := he
    exact ⟨by rw [e2], F', ⟨by rw [comL_yes e2]; exact x1, x2, x3⟩⟩
  · refine (cd_no hn o n a len cap us he w hu.1 h).mono ?_
    rintro e w1 ⟨rfl, hb⟩
    exact ⟨rfl, F, comW_no h hb he⟩
end
end Go.Proofs.YtjmkdgjdemndaaaDoor
