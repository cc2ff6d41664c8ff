/- BagPlays. -/
import Derived.Test.YtjnjpphbclepbaaHG
namespace Go.Proofs.Ytjnjpphbclepbaa
open Go Go.RowKit
set_option maxRecDepth 20000
theorem dk_new (w : World) : Dk w.heap.size (w.alloc (.cells #[.slice none 0 0, .slice none 0 0] 29)) w.heap.size [] := ⟨⟨by simp, fun p hp => by cases hp⟩, _, _, ⟨Nat.le_refl _, heap_alloc_new _ _, rowP_nil _ _, rowB_nil _ _⟩⟩
theorem isAs_at {ws wr : World} {a : Option Addr} {len : Nat} {l : List Ac} {k : Nat} (h : IsAs ws a len l) (hb : Below ws.heap.size ws wr) (hk : k < len) : ∃ b off, a = some ⟨b, off, none⟩ ∧ A5 wr b (off + k * 5) (l.getD k ac0) ∧ Rp ws (l.getD k ac0) := by
  obtain ⟨b, off, e, h1, _⟩ := acells_of h hb hk
  exact ⟨b, off, e, h1, h.each k hk⟩
set_option maxHeartbeats 16000000 in
theorem walkPlays (a : Option Addr) (len cap : Nat) (l : List Ac) (w : World) (hi : IsAs w a len l) :
    Calls Try.prog 3 #[.slice a len cap] w fun e w' => e = .returned (.bool true) ∧ Below w.heap.size w w' := by
  have HI := Lib.hid hi
  have HG := fun (w' : World) (h : Below w.heap.size w w') => Lib.hid (great_any a len cap l w' (isAs_below hi h))
  have HLEN := Lib.hid hi.size
  clear hi
  go_enter Try.func3, Try.ntmps3
  go_wp2_with fail
  refine (ck_new w).mono ?_
  rintro e w1 ⟨rfl, hk, hb, hsz⟩
  have HB1 := Lib.hid hb
  have HN1 := Lib.hid hsz
  have HD2 : Hid (Dk w1.heap.size (w1.alloc (.cells #[.slice none 0 0, .slice none 0 0] 29)) w1.heap.size []) := Lib.hid (dk_new w1)
  have HK2 := Lib.hid (hk.next (Joins.below_alloc1 w1 (.cells #[.slice none 0 0, .slice none 0 0] 29)))
  have HB2 : Hid (Below w.heap.size w (w1.alloc (.cells #[.slice none 0 0, .slice none 0 0] 29))) := Lib.hid (HB1.out.alloc HB1.out.size _)
  clear hk hb hsz
  go_wp2_with fail
  generalize w1.alloc (.cells #[.slice none 0 0, .slice none 0 0] 29) = w2 at *
  generalize w1.heap.size = b' at *
  refine (awake_any w2).mono ?_
  rintro e w3 ⟨rfl, hb⟩
  have HB3 := Lib.hid (Below.next HB2.out hb)
  have HK3 := Lib.hid (HK2.out.next hb)
  have HD3 := Lib.hid ((HD2.out.lower (B' := w.heap.size) (by have := HD2.out.lo; have := HB1.out.size; have := HN1.out; omega)).next hb)
  clear hb HD2 HK2
  go_wp2_with fail
  refine (HG _ HB3.out).out.mono ?_
  rintro e w4 ⟨r, rfl, hb, hok⟩
  have HB4 := Lib.hid (Below.next HB3.out hb)
  have HK4 := Lib.hid (HK3.out.next hb)
  have HD4 := Lib.hid (HD3.out.next hb)
  have HOK := Lib.hid hok
  clear hb hok HK3 HD3 HG HN1 HB1
  cases r with
  | true =>
    go_wp2_with fail
    refine (awake_any _).mono ?_
    rintro e w5 ⟨rfl, hb⟩
    have HB5 := Lib.hid (Below.next HB4.out hb)
    clear hb
    go_wp2
    go_ret
    exact ⟨rfl, HB5.out⟩
  | false =>
    have HOKK : Hid (okAs l) := Lib.hid (HOK.out rfl)
    have hl60 : len ≤ 60 := by have := HOKK.out.1; rw [HLEN.out] at this; exact this
    go_wp2_with fail
    go_loopw [27] (fun v27 wr => ∃ (k : Nat) (lk : List Pk), k ≤ len ∧ v27 = .int .i64 k ∧ Ck w.heap.size wr w.heap.size lk ∧ Dk w.heap.size wr b' lk ∧ Below w.heap.size w wr) (fun v27 _ => len - (intOf v27).toNat)
    case atStart => exact ⟨0, [], Nat.zero_le _, rfl, HK4.out, HD4.out, HB4.out⟩
    case round =>
      obtain ⟨k, lk, hk, rfl, hck, hdk, hbel⟩ := hrel
      by_cases hlt : k < len
      · obtain ⟨b, off, rfl, hc, hr⟩ := isAs_at HI.out hbel hlt
        have hox := HOKK.out.2 k (by rw [HLEN.out]; exact hlt)
        obtain ⟨x, hx⟩ : ∃ x, l.getD k ac0 = x := ⟨_, rfl⟩
        rw [hx] at hc hr hox
        have HDO := fun (b b' : Nat) (lk : List Pk) (wd : World) (h1 : Below w.heap.size w wd) (h2 : Ck w.heap.size wd b lk) (h3 : Dk w.heap.size wd b' lk) => Lib.hid (do_any (B := w.heap.size) (b := b) (b' := b') (l := lk) x hox w hr (Nat.le_refl _) wd h1 h1.size h2 h3)
        obtain ⟨lx, hlx⟩ : ∃ f : List Pk → List Pk, ∀ lk, actL lk x = f lk := ⟨_, fun _ => rfl⟩
        simp only [hlx] at HDO
        obtain ⟨kd, n, bit, m, pa, pl, pc, ps⟩ := x
        obtain ⟨c0, c1, c2, c3, c4⟩ := hc
        simp only at c0 c1 c2 c3 c4 HDO
        have HB0 : Hid (Below wr.heap.size wr (wr.alloc (.cells #[.int .i64 kd, .int .i64 n, .int .i64 bit, .int .u32 (m : Int), .slice pa pl pc] 34))) := Lib.hid (Joins.below_alloc1 _ _)
        have HBD : Hid (Below w.heap.size w (wr.alloc (.cells #[.int .i64 kd, .int .i64 n, .int .i64 bit, .int .u32 (m : Int), .slice pa pl pc] 34)).drew) := Lib.hid (hbel.alloc hbel.size _).drew
        have HKD : Hid (Ck w.heap.size (wr.alloc (.cells #[.int .i64 kd, .int .i64 n, .int .i64 bit, .int .u32 (m : Int), .slice pa pl pc] 34)).drew w.heap.size lk) := Lib.hid ((hck.next HB0.out).asit rfl)
        have HDD : Hid (Dk w.heap.size (wr.alloc (.cells #[.int .i64 kd, .int .i64 n, .int .i64 bit, .int .u32 (m : Int), .slice pa pl pc] 34)).drew b' lk) := Lib.hid ((hdk.next HB0.out).asit rfl)
        have HAD : Hid ((wr.alloc (.cells #[.int .i64 kd, .int .i64 n, .int .i64 bit, .int .u32 (m : Int), .slice pa pl pc] 34)).drew.heap[wr.heap.size]? = some (.cells #[.int .i64 kd, .int .i64 n, .int .i64 bit, .int .u32 (m : Int), .slice pa pl pc] 34 (0, 0))) := Lib.hid (new_at (W := wr) rfl)
        have s0 : (wr.alloc (.cells #[.int .i64 kd, .int .i64 n, .int .i64 bit, .int .u32 (m : Int), .slice pa pl pc] 34)).drew.cell? ⟨wr.heap.size, 0, none⟩ = some (.int .i64 kd) ∧ (wr.alloc (.cells #[.int .i64 kd, .int .i64 n, .int .i64 bit, .int .u32 (m : Int), .slice pa pl pc] 34)).drew.cell? ⟨wr.heap.size, 1, none⟩ = some (.int .i64 n) ∧ (wr.alloc (.cells #[.int .i64 kd, .int .i64 n, .int .i64 bit, .int .u32 (m : Int), .slice pa pl pc] 34)).drew.cell? ⟨wr.heap.size, 2, none⟩ = some (.int .i64 bit) ∧ (wr.alloc (.cells #[.int .i64 kd, .int .i64 n, .int .i64 bit, .int .u32 (m : Int), .slice pa pl pc] 34)).drew.cell? ⟨wr.heap.size, 3, none⟩ = some (.int .u32 (m : Int)) ∧ (wr.alloc (.cells #[.int .i64 kd, .int .i64 n, .int .i64 bit, .int .u32 (m : Int), .slice pa pl pc] 34)).drew.cell? ⟨wr.heap.size, 4, none⟩ = some (.slice pa pl pc) := ⟨cell_at HAD.out 0 _ rfl, cell_at HAD.out 1 _ rfl, cell_at HAD.out 2 _ rfl, cell_at HAD.out 3 _ rfl, cell_at HAD.out 4 _ rfl⟩
        clear hck hdk hbel hr hox hx
        go_upto_region 7 with fail
        clear c0 c1 c2 c3 c4
        go_wp2_with fail
        refine wp_region_held_drew (S := fun w' => w'.cell? ⟨wr.heap.size, 0, none⟩ = some (.int .i64 kd) ∧ w'.cell? ⟨wr.heap.size, 1, none⟩ = some (.int .i64 n) ∧ w'.cell? ⟨wr.heap.size, 2, none⟩ = some (.int .i64 bit) ∧ w'.cell? ⟨wr.heap.size, 3, none⟩ = some (.int .u32 (m : Int)) ∧ w'.cell? ⟨wr.heap.size, 4, none⟩ = some (.slice pa pl pc)) (by kernel_rfl) ?_ (fun hH => ?_)
        · exact s0
        refine wpAnyH_take (i := 0) (oi := { dst := some 31, op := Go.Op.move (Go.Operand.tmp 3), type := 23, pos := "law.go:87", after := #[], guard := none }) (v := ?_) rfl (by kernel_rfl) (by kernel_rfl) (by kernel_rfl) (fun _ _ _ h => h) (Or.inl ⟨by rfl, ?_⟩) (by assumption) ?_
        rotate_left
        · intro w hSw
          try dsimp only at hSw
          obtain ⟨x0, x1, x2, x3, x4⟩ := hSw
          go_simp
          all_goals with_reducible rfl
        try simp only [Act.put, List.setIfInBounds_toArray, List.set_cons_zero, List.set_cons_succ]
        refine wpAnyH_take (i := 1) (oi := { dst := some 32, op := Go.Op.move (Go.Operand.tmp 4), type := 25, pos := "law.go:87", after := #[], guard := none }) (v := ?_) rfl (by kernel_rfl) (by kernel_rfl) (by kernel_rfl) (fun _ _ _ h => h) (Or.inl ⟨by rfl, ?_⟩) (by assumption) ?_
        rotate_left
        · intro w hSw
          try dsimp only at hSw
          obtain ⟨x0, x1, x2, x3, x4⟩ := hSw
          go_simp
          all_goals with_reducible rfl
        try simp only [Act.put, List.setIfInBounds_toArray, List.set_cons_zero, List.set_cons_succ]
        refine wpAnyH_take (i := 2) (oi := { dst := some 33, op := Go.Op.load 34 (Go.Operand.tmp 6), type := 34, pos := "law.go:87", after := #[], guard := none }) (v := ?_) rfl (by kernel_rfl) (by kernel_rfl) (by kernel_rfl) (fun _ _ _ h => h) (Or.inl ⟨by rfl, ?_⟩) (by assumption) ?_
        rotate_left
        · intro w hSw
          try dsimp only at hSw
          obtain ⟨x0, x1, x2, x3, x4⟩ := hSw
          go_simp
          all_goals with_reducible rfl
        try simp only [Act.put, List.setIfInBounds_toArray, List.set_cons_zero, List.set_cons_succ]
        refine wpAnyH_ready (rs := [3]) (by kernel_rfl) (by simp) ?_
        refine AllReadyH.cons (o := { dst := some 34, op := Go.Op.call { callee := Go.Callee.value (Go.Operand.func 10), args := #[Go.Operand.tmp 31, Go.Operand.tmp 32, Go.Operand.tmp 33], argTypes := #[23, 25, 34] }, type := 4, pos := "law.go:87", after := #[{ on := 0, ground := Go.Ground.data }, { on := 1, ground := Go.Ground.data }, { on := 2, ground := Go.Ground.data }], guard := none }) rfl (fun K hK => ?_) ?_
        · go_simp
          refine (HDO _ _ _ _ HBD.out HKD.out HDD.out).out.mono ?_
          rintro e y1 ⟨rfl, hk, hd, hw⟩
          have HK1 := Lib.hid hk
          have HB1 := Lib.hid (HBD.out.trans (hw.below HBD.out.size))
          have HA1 := Lib.hid (hw.oth _ _ _ _ HAD.out (by decide) (by decide) (by decide))
          have s1 : y1.cell? ⟨wr.heap.size, 0, none⟩ = some (.int .i64 kd) ∧ y1.cell? ⟨wr.heap.size, 1, none⟩ = some (.int .i64 n) ∧ y1.cell? ⟨wr.heap.size, 2, none⟩ = some (.int .i64 bit) ∧ y1.cell? ⟨wr.heap.size, 3, none⟩ = some (.int .u32 (m : Int)) ∧ y1.cell? ⟨wr.heap.size, 4, none⟩ = some (.slice pa pl pc) := ⟨cell_at HA1.out 0 _ rfl, cell_at HA1.out 1 _ rfl, cell_at HA1.out 2 _ rfl, cell_at HA1.out 3 _ rfl, cell_at HA1.out 4 _ rfl⟩
          generalize lx lk = l2 at *
          obtain ⟨n2, hn2⟩ : ∃ n2, l2.length = n2 := ⟨_, rfl⟩
          have HN2 := Lib.hid hn2
          have HOL : Hid (n2 ≤ 4096) := Lib.hid (by rw [← hn2]; exact hd.1.len)
          have HD1 := Lib.hid hd
          obtain ⟨_, v2, u2, hbd⟩ := hd
          obtain ⟨a2, c2', rfl, hx2, _⟩ := hbd.row.is
          rw [List.length_map, hn2] at hx2
          have HX1 := Lib.hid hx2
          have ck1 : y1.cell? ⟨b', 0, none⟩ = some (.slice a2 n2 c2') := by
            have := hbd.c0
            rw [List.length_map, hn2] at this
            exact this
          have HAL := Lib.hid (all_any _ HK1.out)
          rw [hn2] at HAL
          clear hk hw hn2 hbd hx2
          go_wp2_with fail
          refine hK.out _ _ ?_ (fun hH => ?_)
          · exact s1
          clear hK K
          try simp only [Act.put, List.setIfInBounds_toArray, List.set_cons_zero, List.set_cons_succ]
          refine wpAnyH_take (i := 4) (oi := { dst := some 35, op := Go.Op.unOp Go.UnOp.not 4 (Go.Operand.tmp 34), type := 4, pos := "law.go:87", after := #[{ on := 3, ground := Go.Ground.data }], guard := none }) (v := ?_) rfl (by kernel_rfl) (by kernel_rfl) (by kernel_rfl) (fun _ _ _ h => h) (Or.inl ⟨by rfl, ?_⟩) (by assumption) ?_
          rotate_left
          · intro w hSw
            try dsimp only at hSw
            obtain ⟨x0, x1, x2, x3, x4⟩ := hSw
            go_simp
            all_goals with_reducible rfl
          try simp only [Act.put, List.setIfInBounds_toArray, List.set_cons_zero, List.set_cons_succ]
          refine wpAnyH_take (i := 5) (oi := { dst := some 36, op := Go.Op.move (Go.Operand.tmp 35), type := 4, pos := "law.go:87", after := #[{ on := 4, ground := Go.Ground.data }, { on := 3, ground := Go.Ground.chain }], guard := none }) (v := ?_) rfl (by kernel_rfl) (by kernel_rfl) (by kernel_rfl) (fun _ _ _ h => h) (Or.inl ⟨by rfl, ?_⟩) (by assumption) ?_
          rotate_left
          · intro w hSw
            try dsimp only at hSw
            obtain ⟨x0, x1, x2, x3, x4⟩ := hSw
            go_simp
            all_goals with_reducible rfl
          try simp only [Act.put, List.setIfInBounds_toArray, List.set_cons_zero, List.set_cons_succ]
          refine wpAnyH_take (i := 6) (oi := { dst := some 37, op := Go.Op.move (Go.Operand.tmp 3), type := 23, pos := "law.go:87", after := #[{ on := 5, ground := Go.Ground.guard }], guard := some (5, false) }) (v := ?_) rfl (by kernel_rfl) (by kernel_rfl) (by kernel_rfl) (fun _ _ _ h => h) (Or.inl ⟨by rfl, ?_⟩) (by assumption) ?_
          rotate_left
          · intro w hSw
            try dsimp only at hSw
            obtain ⟨x0, x1, x2, x3, x4⟩ := hSw
            go_simp
            all_goals with_reducible rfl
          try simp only [Act.put, List.setIfInBounds_toArray, List.set_cons_zero, List.set_cons_succ]
          refine wpAnyH_take (i := 8) (oi := { dst := some 39, op := Go.Op.move (Go.Operand.tmp 4), type := 25, pos := "law.go:87", after := #[{ on := 5, ground := Go.Ground.guard }], guard := some (5, false) }) (v := ?_) rfl (by kernel_rfl) (by kernel_rfl) (by kernel_rfl) (fun _ _ _ h => h) (Or.inl ⟨by rfl, ?_⟩) (by assumption) ?_
          rotate_left
          · intro w hSw
            try dsimp only at hSw
            obtain ⟨x0, x1, x2, x3, x4⟩ := hSw
            go_simp
            all_goals with_reducible rfl
          try simp only [Act.put, List.setIfInBounds_toArray, List.set_cons_zero, List.set_cons_succ]
          refine wpAnyH_take (i := 9) (oi := { dst := some 40, op := Go.Op.nilCheck (Go.Operand.tmp 39), type := 0, pos := "law.go:87", after := #[{ on := 8, ground := Go.Ground.data }, { on := 5, ground := Go.Ground.guard }], guard := some (5, false) }) (v := ?_) rfl (by kernel_rfl) (by kernel_rfl) (by kernel_rfl) (fun _ _ _ h => h) (Or.inl ⟨by rfl, ?_⟩) (by assumption) ?_
          rotate_left
          · intro w hSw
            try dsimp only at hSw
            obtain ⟨x0, x1, x2, x3, x4⟩ := hSw
            go_simp
            all_goals with_reducible rfl
          try simp only [Act.put, List.setIfInBounds_toArray, List.set_cons_zero, List.set_cons_succ]
          refine wpAnyH_take (i := 10) (oi := { dst := some 41, op := Go.Op.fieldAddr 29 (Go.Operand.tmp 40) 0, type := 0, pos := "law.go:87", after := #[{ on := 9, ground := Go.Ground.data }, { on := 5, ground := Go.Ground.guard }], guard := some (5, false) }) (v := ?_) rfl (by kernel_rfl) (by kernel_rfl) (by kernel_rfl) (fun _ _ _ h => h) (Or.inl ⟨by rfl, ?_⟩) (by assumption) ?_
          rotate_left
          · intro w hSw
            try dsimp only at hSw
            obtain ⟨x0, x1, x2, x3, x4⟩ := hSw
            go_simp
            all_goals with_reducible rfl
          try simp only [Act.put, List.setIfInBounds_toArray, List.set_cons_zero, List.set_cons_succ]
          refine wpAnyH_ready (rs := [7, 11]) (by kernel_rfl) (by simp) ?_
          refine AllReadyH.cons (o := { dst := some 38, op := Go.Op.call { callee := Go.Callee.value (Go.Operand.func 12), args := #[Go.Operand.tmp 37], argTypes := #[23] }, type := 26, pos := "law.go:87", after := #[{ on := 6, ground := Go.Ground.data }, { on := 5, ground := Go.Ground.chain }, { on := 5, ground := Go.Ground.guard }], guard := some (5, false) }) rfl (fun K hK => ?_) ?_
          · go_simp
            refine HAL.out.mono ?_
            rintro e y2 ⟨a3, c3, rfl, hr3, hb⟩
            have HB2 := Lib.hid (HB1.out.trans (hb.mono HB1.out.size))
            have HK2 := Lib.hid (HK1.out.next hb)
            have HD2 := Lib.hid (HD1.out.next hb)
            have HX2 := Lib.hid (psAt_below HX1.out hb)
            have HR2 := Lib.hid (hr3.isP (by rw [List.length_map]; exact HN2.out.symm)).1
            have HA2 := Lib.hid (kept_at HA1.out hb)
            have s2 : y2.cell? ⟨wr.heap.size, 0, none⟩ = some (.int .i64 kd) ∧ y2.cell? ⟨wr.heap.size, 1, none⟩ = some (.int .i64 n) ∧ y2.cell? ⟨wr.heap.size, 2, none⟩ = some (.int .i64 bit) ∧ y2.cell? ⟨wr.heap.size, 3, none⟩ = some (.int .u32 (m : Int)) ∧ y2.cell? ⟨wr.heap.size, 4, none⟩ = some (.slice pa pl pc) := ⟨cell_at HA2.out 0 _ rfl, cell_at HA2.out 1 _ rfl, cell_at HA2.out 2 _ rfl, cell_at HA2.out 3 _ rfl, cell_at HA2.out 4 _ rfl⟩
            have ck2 : y2.cell? ⟨b', 0, none⟩ = some (.slice a2 n2 c2') := (hb.cell HD1.out.lt).trans ck1
            clear hb hr3
            go_wp2_with fail
            refine hK.out _ _ ?_ (fun hH => ?_)
            · exact s2
            clear hK K
            try simp only [Act.put, List.setIfInBounds_toArray, List.set_cons_zero, List.set_cons_succ]
            refine wpAnyH_ready (rs := [11]) (by kernel_rfl) (by simp) ?_
            refine AllReadyH.cons (o := { dst := some 42, op := Go.Op.load 26 (Go.Operand.tmp 41), type := 26, pos := "law.go:87", after := #[{ on := 10, ground := Go.Ground.data }, { on := 5, ground := Go.Ground.guard }], guard := some (5, false) }) rfl (fun K hK => ?_) ?_
            · go_simp
              refine hK.out _ _ ?_ (fun hH => ?_)
              · exact s2
              clear hK K
              try simp only [Act.put, List.setIfInBounds_toArray, List.set_cons_zero, List.set_cons_succ]
              refine wpAnyH_ready (rs := [12]) (by kernel_rfl) (by simp) ?_
              refine AllReadyH.cons (o := { dst := some 43, op := Go.Op.call { callee := Go.Callee.value (Go.Operand.func 11), args := #[Go.Operand.tmp 38, Go.Operand.tmp 42], argTypes := #[26, 26] }, type := 4, pos := "law.go:87", after := #[{ on := 7, ground := Go.Ground.data }, { on := 11, ground := Go.Ground.data }, { on := 7, ground := Go.Ground.chain }, { on := 5, ground := Go.Ground.guard }], guard := some (5, false) }) rfl (fun K hK => ?_) ?_
              · go_simp
                refine (same_yes a3 a2 n2 _ _ (l2.map pktOf) (by have := HOL.out; omega) _ HR2.out HX2.out).mono ?_
                rintro e y3 ⟨rfl, e1, e2, e3, e4⟩
                have HB3 := Lib.hid (Below.next HB2.out (below_asit e1 e2 e3 e4))
                have HK3 := Lib.hid (HK2.out.asit e1)
                have HD3 := Lib.hid (HD2.out.asit e1)
                have s3 : y3.cell? ⟨wr.heap.size, 0, none⟩ = some (.int .i64 kd) ∧ y3.cell? ⟨wr.heap.size, 1, none⟩ = some (.int .i64 n) ∧ y3.cell? ⟨wr.heap.size, 2, none⟩ = some (.int .i64 bit) ∧ y3.cell? ⟨wr.heap.size, 3, none⟩ = some (.int .u32 (m : Int)) ∧ y3.cell? ⟨wr.heap.size, 4, none⟩ = some (.slice pa pl pc) := by
                  have ha : y3.heap[wr.heap.size]? = _ := (congrArg (fun h => h[wr.heap.size]?) e1).trans HA2.out
                  exact ⟨cell_at ha 0 _ rfl, cell_at ha 1 _ rfl, cell_at ha 2 _ rfl, cell_at ha 3 _ rfl, cell_at ha 4 _ rfl⟩
                clear e1 e2 e3 e4
                go_wp2_with fail
                refine hK.out _ _ ?_ (fun hH => ?_)
                · exact s3
                clear hK K
                try simp only [Act.put, List.setIfInBounds_toArray, List.set_cons_zero, List.set_cons_succ]
                refine wpAnyH_take (i := 13) (oi := { dst := some 44, op := Go.Op.unOp Go.UnOp.not 4 (Go.Operand.tmp 43), type := 4, pos := "law.go:87", after := #[{ on := 12, ground := Go.Ground.data }, { on := 5, ground := Go.Ground.guard }], guard := some (5, false) }) (v := ?_) rfl (by kernel_rfl) (by kernel_rfl) (by kernel_rfl) (fun _ _ _ h => h) (Or.inl ⟨by rfl, ?_⟩) (by assumption) ?_
                rotate_left
                · intro w hSw
                  try dsimp only at hSw
                  obtain ⟨x0, x1, x2, x3, x4⟩ := hSw
                  go_simp
                  all_goals with_reducible rfl
                try simp only [Act.put, List.setIfInBounds_toArray, List.set_cons_zero, List.set_cons_succ]
                refine wpAnyH_take (i := 14) (oi := { dst := some 45, op := Go.Op.pick (Go.Operand.tmp 36) (Go.Operand.const (Go.Value.bool true)) (Go.Operand.tmp 44), type := 4, pos := "law.go:87", after := #[{ on := 5, ground := Go.Ground.data }, { on := 13, ground := Go.Ground.data }], guard := none }) (v := ?_) rfl (by kernel_rfl) (by kernel_rfl) (by kernel_rfl) (fun _ _ _ h => h) (Or.inl ⟨by rfl, ?_⟩) (by assumption) ?_
                rotate_left
                · intro w hSw
                  try dsimp only at hSw
                  obtain ⟨x0, x1, x2, x3, x4⟩ := hSw
                  go_simp
                  all_goals with_reducible rfl
                try simp only [Act.put, List.setIfInBounds_toArray, List.set_cons_zero, List.set_cons_succ]
                refine wpAnyH_done (by kernel_rfl) ?_ _
                clear s1 s2 s3
                go_wp2
                go_roundw
                case rel => exact ⟨k + 1, _, by omega, by go_num, HK3.out, HD3.out, HB3.out⟩
                case measure => simp [intOf]; omega
              exact AllReadyH.nil
            exact AllReadyH.nil
          refine AllReadyH.cons (o := { dst := some 42, op := Go.Op.load 26 (Go.Operand.tmp 41), type := 26, pos := "law.go:87", after := #[{ on := 10, ground := Go.Ground.data }, { on := 5, ground := Go.Ground.guard }], guard := some (5, false) }) rfl (fun K hK => ?_) ?_
          · go_simp
            refine hK.out _ _ ?_ (fun hH => ?_)
            · exact s1
            clear hK K
            try simp only [Act.put, List.setIfInBounds_toArray, List.set_cons_zero, List.set_cons_succ]
            refine wpAnyH_ready (rs := [7]) (by kernel_rfl) (by simp) ?_
            refine AllReadyH.cons (o := { dst := some 38, op := Go.Op.call { callee := Go.Callee.value (Go.Operand.func 12), args := #[Go.Operand.tmp 37], argTypes := #[23] }, type := 26, pos := "law.go:87", after := #[{ on := 6, ground := Go.Ground.data }, { on := 5, ground := Go.Ground.chain }, { on := 5, ground := Go.Ground.guard }], guard := some (5, false) }) rfl (fun K hK => ?_) ?_
            · go_simp
              refine HAL.out.mono ?_
              rintro e y2 ⟨a3, c3, rfl, hr3, hb⟩
              have HB2 := Lib.hid (HB1.out.trans (hb.mono HB1.out.size))
              have HK2 := Lib.hid (HK1.out.next hb)
              have HD2 := Lib.hid (HD1.out.next hb)
              have HX2 := Lib.hid (psAt_below HX1.out hb)
              have HR2 := Lib.hid (hr3.isP (by rw [List.length_map]; exact HN2.out.symm)).1
              have HA2 := Lib.hid (kept_at HA1.out hb)
              have s2 : y2.cell? ⟨wr.heap.size, 0, none⟩ = some (.int .i64 kd) ∧ y2.cell? ⟨wr.heap.size, 1, none⟩ = some (.int .i64 n) ∧ y2.cell? ⟨wr.heap.size, 2, none⟩ = some (.int .i64 bit) ∧ y2.cell? ⟨wr.heap.size, 3, none⟩ = some (.int .u32 (m : Int)) ∧ y2.cell? ⟨wr.heap.size, 4, none⟩ = some (.slice pa pl pc) := ⟨cell_at HA2.out 0 _ rfl, cell_at HA2.out 1 _ rfl, cell_at HA2.out 2 _ rfl, cell_at HA2.out 3 _ rfl, cell_at HA2.out 4 _ rfl⟩
              have ck2 : y2.cell? ⟨b', 0, none⟩ = some (.slice a2 n2 c2') := (hb.cell HD1.out.lt).trans ck1
              clear hb hr3
              go_wp2_with fail
              refine hK.out _ _ ?_ (fun hH => ?_)
              · exact s2
              clear hK K
              try simp only [Act.put, List.setIfInBounds_toArray, List.set_cons_zero, List.set_cons_succ]
              refine wpAnyH_ready (rs := [12]) (by kernel_rfl) (by simp) ?_
              refine AllReadyH.cons (o := { dst := some 43, op := Go.Op.call { callee := Go.Callee.value (Go.Operand.func 11), args := #[Go.Operand.tmp 38, Go.Operand.tmp 42], argTypes := #[26, 26] }, type := 4, pos := "law.go:87", after := #[{ on := 7, ground := Go.Ground.data }, { on := 11, ground := Go.Ground.data }, { on := 7, ground := Go.Ground.chain }, { on := 5, ground := Go.Ground.guard }], guard := some (5, false) }) rfl (fun K hK => ?_) ?_
              · go_simp
                refine (same_yes a3 a2 n2 _ _ (l2.map pktOf) (by have := HOL.out; omega) _ HR2.out HX2.out).mono ?_
                rintro e y3 ⟨rfl, e1, e2, e3, e4⟩
                have HB3 := Lib.hid (Below.next HB2.out (below_asit e1 e2 e3 e4))
                have HK3 := Lib.hid (HK2.out.asit e1)
                have HD3 := Lib.hid (HD2.out.asit e1)
                have s3 : y3.cell? ⟨wr.heap.size, 0, none⟩ = some (.int .i64 kd) ∧ y3.cell? ⟨wr.heap.size, 1, none⟩ = some (.int .i64 n) ∧ y3.cell? ⟨wr.heap.size, 2, none⟩ = some (.int .i64 bit) ∧ y3.cell? ⟨wr.heap.size, 3, none⟩ = some (.int .u32 (m : Int)) ∧ y3.cell? ⟨wr.heap.size, 4, none⟩ = some (.slice pa pl pc) := by
                  have ha : y3.heap[wr.heap.size]? = _ := (congrArg (fun h => h[wr.heap.size]?) e1).trans HA2.out
                  exact ⟨cell_at ha 0 _ rfl, cell_at ha 1 _ rfl, cell_at ha 2 _ rfl, cell_at ha 3 _ rfl, cell_at ha 4 _ rfl⟩
                clear e1 e2 e3 e4
                go_wp2_with fail
                refine hK.out _ _ ?_ (fun hH => ?_)
                · exact s3
                clear hK K
                try simp only [Act.put, List.setIfInBounds_toArray, List.set_cons_zero, List.set_cons_succ]
                refine wpAnyH_take (i := 13) (oi := { dst := some 44, op := Go.Op.unOp Go.UnOp.not 4 (Go.Operand.tmp 43), type := 4, pos := "law.go:87", after := #[{ on := 12, ground := Go.Ground.data }, { on := 5, ground := Go.Ground.guard }], guard := some (5, false) }) (v := ?_) rfl (by kernel_rfl) (by kernel_rfl) (by kernel_rfl) (fun _ _ _ h => h) (Or.inl ⟨by rfl, ?_⟩) (by assumption) ?_
                rotate_left
                · intro w hSw
                  try dsimp only at hSw
                  obtain ⟨x0, x1, x2, x3, x4⟩ := hSw
                  go_simp
                  all_goals with_reducible rfl
                try simp only [Act.put, List.setIfInBounds_toArray, List.set_cons_zero, List.set_cons_succ]
                refine wpAnyH_take (i := 14) (oi := { dst := some 45, op := Go.Op.pick (Go.Operand.tmp 36) (Go.Operand.const (Go.Value.bool true)) (Go.Operand.tmp 44), type := 4, pos := "law.go:87", after := #[{ on := 5, ground := Go.Ground.data }, { on := 13, ground := Go.Ground.data }], guard := none }) (v := ?_) rfl (by kernel_rfl) (by kernel_rfl) (by kernel_rfl) (fun _ _ _ h => h) (Or.inl ⟨by rfl, ?_⟩) (by assumption) ?_
                rotate_left
                · intro w hSw
                  try dsimp only at hSw
                  obtain ⟨x0, x1, x2, x3, x4⟩ := hSw
                  go_simp
                  all_goals with_reducible rfl
                try simp only [Act.put, List.setIfInBounds_toArray, List.set_cons_zero, List.set_cons_succ]
                refine wpAnyH_done (by kernel_rfl) ?_ _
                clear s1 s2 s3
                go_wp2
                go_roundw
                case rel => exact ⟨k + 1, _, by omega, by go_num, HK3.out, HD3.out, HB3.out⟩
                case measure => simp [intOf]; omega
              exact AllReadyH.nil
            exact AllReadyH.nil
          exact AllReadyH.nil
        exact AllReadyH.nil
      · obtain rfl : k = len := by omega
        have HK := Lib.hid hck
        have HB := Lib.hid hbel
        have HL := fun (B b : Nat) (w : World) (h : Ck B w b lk) => Lib.hid (ck_len h)
        have HA1 := fun (B b : Nat) (w : World) (h : Ck B w b lk) => Lib.hid (ck_at (-1) h)
        have HA2 := fun (B b : Nat) (w : World) (h : Ck B w b lk) => Lib.hid (ck_at (lk.length : Int) h)
        have i1 : ¬ inb lk (-1) := fun h => by have := h.1; omega
        have i2 : ¬ inb lk (lk.length : Int) := fun h => by have := h.2; omega
        have p1 : ∀ i, ¬ inb lk i → atP lk i = pk0 := fun i h => by unfold atP; rw [if_neg h]
        rw [p1 _ i1, decide_eq_false i1] at HA1
        rw [p1 _ i2, decide_eq_false i2] at HA2
        unfold pv pk0 at HA1 HA2
        simp only at HA1 HA2
        generalize (lk.length : Int) = L at *
        clear hck hdk hbel i1 i2 p1
        go_wp2_with fail
        refine (HA1 _ _ _ HK.out).out.mono ?_
        rintro e y1 ⟨rfl, hb⟩
        have HK1 := fun o => Lib.hid ((HK.out.next hb).next (Joins.below_alloc1 y1 o))
        have HB1 := fun o => Lib.hid ((Below.next HB.out hb).alloc (Below.next HB.out hb).size o)
        clear hb
        go_wp2_with fail
        refine (HL _ _ _ (HK1 _).out).out.mono ?_
        rintro e y2 ⟨rfl, hy⟩
        obtain rfl := hy.symm
        go_wp2_with fail
        refine (HA2 _ _ _ (HK1 _).out).out.mono ?_
        rintro e y3 ⟨rfl, hb⟩
        have HB3 := Lib.hid (Below.next (HB1 _).out hb)
        clear hb
        go_wp2
        go_ret
        exact ⟨rfl, HB3.out.alloc HB3.out.size _⟩
end Go.Proofs.Ytjnjpphbclepbaa
