/- A call on both bags. -/
import Derived.Test.YtjnjpphbclepbaaHF
import Derived.Deep.RegionHeld3
namespace Go.Proofs.Ytjnjpphbclepbaa
open Go Go.RowKit
set_option maxRecDepth 20000
/-- What calls on both bags leave: blocks of other types. -/
structure SdW (B : Nat) (w w' : World) : Prop where
  os : w'.os = w.os
  tape : w'.tape = w.tape
  output : w'.output = w.output
  size : w.heap.size ≤ w'.heap.size
  low : ∀ i, i < B → i < w.heap.size → w'.heap[i]? = w.heap[i]?
  oth : ∀ (X : Nat) (cur : Array Value) (t : TypeId) (fr : Nat × Nat), w.heap[X]? = some (.cells cur t fr) → t ≠ 53 → t ≠ 60 → t ≠ 29 → w'.heap[X]? = some (.cells cur t fr)
theorem SdW.ofBelow {B : Nat} {w w' : World} (h : Below w.heap.size w w') : SdW B w w' := ⟨h.os, h.tape, h.output, h.size, fun i _ hi => h.block i hi, fun X _ _ _ hX _ _ _ => (h.block X (Array.getElem?_eq_some_iff.1 hX).1).trans hX⟩
theorem SdW.ofBk {B : Nat} {w w' : World} (h : BkW B w w') : SdW B w w' := ⟨h.os, h.tape, h.output, h.size, h.low, fun _ _ _ _ hX h1 h2 _ => h.cells hX h1 h2⟩
theorem SdW.ofDk {B b : Nat} {l : List Pk} {w w' : World} (h : Dk B w b l) (hg : w.grownBy w' (some b)) : SdW B w w' := ⟨hg.os, hg.tape, hg.output, hg.size, fun i hi hl => hg.block i hl (fun e => by cases e; have := h.lo; omega), fun X cur t fr hX _ _ h3 => (hg.block X (Array.getElem?_eq_some_iff.1 hX).1 (fun e => by
  cases e
  obtain ⟨cur', hc⟩ := h.typ
  exact two_types hX hc h3 rfl)).trans hX⟩
theorem SdW.trans {B : Nat} {w1 w2 w3 : World} (h : SdW B w1 w2) (k : SdW B w2 w3) : SdW B w1 w3 :=
  ⟨k.os.trans h.os, k.tape.trans h.tape, k.output.trans h.output, Nat.le_trans h.size k.size, fun i hi hl => (k.low i hi (Nat.lt_of_lt_of_le hl h.size)).trans (h.low i hi hl), fun X cur t fr hX h1 h2 h3 => k.oth X cur t fr (h.oth X cur t fr hX h1 h2 h3) h1 h2 h3⟩
theorem SdW.below {B : Nat} {w w' : World} (h : SdW B w w') (hB : B ≤ w.heap.size) : Below B w w' := ⟨h.os, h.tape, h.output, h.size, fun i hi => h.low i hi (by omega)⟩
theorem Dk.alone {B b : Nat} {l : List Pk} {w w' : World} (h : Dk B w b l) (hg : w.grownBy w' (some b)) {X : Nat} {cur : Array Value} {t : TypeId} {fr : Nat × Nat} (hX : w.heap[X]? = some (.cells cur t fr)) (ht : t ≠ 29) : w'.heap[X]? = some (.cells cur t fr) :=
  (hg.block X (Array.getElem?_eq_some_iff.1 hX).1 (fun e => by
    cases e
    obtain ⟨cur', hc⟩ := h.typ
    exact two_types hX hc ht rfl)).trans hX
theorem Ck.dk {B b b' : Nat} {l l' : List Pk} {w w' : World} (h : Ck B w b l) (hd : Dk B w b' l') (hg : w.grownBy w' (some b')) : Ck B w' b l := by
  obtain ⟨cur, hc⟩ := hd.typ
  exact h.grown hg hc (by decide) (by decide)
/-- What a call makes of the packets. -/
def actL (l : List Pk) (x : Ac) : List Pk := if x.k = 1 then addL l x.ps else if x.k = 2 then tkL l x.n else if x.k = 3 then twL l x.n else if x.k = 4 then spL l x.n x.bit x.m else l
section
variable {B b b' : Nat} {l : List Pk} {n bit : Int} {m pl pc : Nat} {pa : Option Addr} {ps : List Pkt}
set_option maxHeartbeats 8000000 in
theorem do_else (k : Int) (k1 : ¬ k = 1) (k2 : ¬ k = 2) (k3 : ¬ k = 3) (k4 : ¬ k = 4) (w : World) (h : Ck B w b l) (hd : Dk B w b' l) : Calls Try.prog 10 #[.pointer (some ⟨b, 0, none⟩), .pointer (some ⟨b', 0, none⟩), .agg #[.int .i64 k, .int .i64 n, .int .i64 bit, .int .u32 (m : Int), .slice pa pl pc]] w fun e w' => e = .returned (.bool true) ∧ Ck B w' b (l) ∧ Dk B w' b' (l) ∧ SdW B w w' := by
  have HB0 : Hid (Below w.heap.size w (w.alloc (.cells #[.int .i64 k, .int .i64 n, .int .i64 bit, .int .u32 (m : Int), .slice pa pl pc] 34))) := Lib.hid (Joins.below_alloc1 _ _)
  have HA0 : Hid ((w.alloc (.cells #[.int .i64 k, .int .i64 n, .int .i64 bit, .int .u32 (m : Int), .slice pa pl pc] 34)).heap[w.heap.size]? = some (.cells #[.int .i64 k, .int .i64 n, .int .i64 bit, .int .u32 (m : Int), .slice pa pl pc] 34 (0, 0))) := Lib.hid (new_at rfl)
  have HK0 := Lib.hid (h.next HB0.out)
  have HD0 := Lib.hid (hd.next HB0.out)
  have q1 : (k == 1) = false := beq_false_of_ne k1
  have q2 : (k == 2) = false := beq_false_of_ne k2
  have q3 : (k == 3) = false := beq_false_of_ne k3
  have q4 : (k == 4) = false := beq_false_of_ne k4
  clear h hd
  go_enter Try.func10, Try.ntmps10
  go_wp2
  go_ret
  exact ⟨rfl, HK0.out, HD0.out, SdW.ofBelow HB0.out⟩
set_option maxHeartbeats 8000000 in
theorem do_twice  (w : World) (h : Ck B w b l) (hd : Dk B w b' l) : Calls Try.prog 10 #[.pointer (some ⟨b, 0, none⟩), .pointer (some ⟨b', 0, none⟩), .agg #[.int .i64 3, .int .i64 n, .int .i64 bit, .int .u32 (m : Int), .slice pa pl pc]] w fun e w' => e = .returned (.bool true) ∧ Ck B w' b (twL l n) ∧ Dk B w' b' (twL l n) ∧ SdW B w w' := by
  have HB0 : Hid (Below w.heap.size w (w.alloc (.cells #[.int .i64 3, .int .i64 n, .int .i64 bit, .int .u32 (m : Int), .slice pa pl pc] 34))) := Lib.hid (Joins.below_alloc1 _ _)
  have HA0 : Hid ((w.alloc (.cells #[.int .i64 3, .int .i64 n, .int .i64 bit, .int .u32 (m : Int), .slice pa pl pc] 34)).heap[w.heap.size]? = some (.cells #[.int .i64 3, .int .i64 n, .int .i64 bit, .int .u32 (m : Int), .slice pa pl pc] 34 (0, 0))) := Lib.hid (new_at rfl)
  have HK0 := Lib.hid (h.next HB0.out)
  have HD0 := Lib.hid (hd.next HB0.out)
  clear h hd
  go_enter Try.func10, Try.ntmps10
  go_upto_region 9 with fail
  generalize w.alloc (.cells #[.int .i64 3, .int .i64 n, .int .i64 bit, .int .u32 (m : Int), .slice pa pl pc] 34) = w0 at *
  have HKK : Hid (Ck B w0.drew b l) := Lib.hid (HK0.out.asit rfl)
  have HDD : Hid (Dk B w0.drew b' l) := Lib.hid (HD0.out.asit rfl)
  have HAA : Hid (w0.drew.heap[w.heap.size]? = some (.cells #[.int .i64 3, .int .i64 n, .int .i64 bit, .int .u32 (m : Int), .slice pa pl pc] 34 (0, 0))) := HA0
  have HZ : Hid (SdW B w0 w0.drew) := Lib.hid (SdW.ofBelow (Below.refl w0.heap.size w0).drew)
  have s0 : w0.drew.cell? ⟨w.heap.size, 1, none⟩ = some (.int .i64 n) ∧ w0.drew.cell? ⟨w.heap.size, 2, none⟩ = some (.int .i64 bit) ∧ w0.drew.cell? ⟨w.heap.size, 3, none⟩ = some (.int .u32 (m : Int)) ∧ w0.drew.cell? ⟨w.heap.size, 4, none⟩ = some (.slice pa pl pc) := ⟨cell_at HAA.out 1 _ rfl, cell_at HAA.out 2 _ rfl, cell_at HAA.out 3 _ rfl, cell_at HAA.out 4 _ rfl⟩
  refine wp_region_held_drew (S := fun w' => w'.cell? ⟨w.heap.size, 1, none⟩ = some (.int .i64 n) ∧ w'.cell? ⟨w.heap.size, 2, none⟩ = some (.int .i64 bit) ∧ w'.cell? ⟨w.heap.size, 3, none⟩ = some (.int .u32 (m : Int)) ∧ w'.cell? ⟨w.heap.size, 4, none⟩ = some (.slice pa pl pc)) (by kernel_rfl) ?_ (fun hH => ?_)
  · exact s0
  refine wpAnyH_take (i := 0) (oi := { dst := some 52, op := Go.Op.move (Go.Operand.tmp 0), type := 23, pos := "law.go:63", after := #[], guard := none }) (v := ?_) rfl (by kernel_rfl) (by kernel_rfl) (by kernel_rfl) (fun _ _ _ h => h) (Or.inl ⟨by rfl, ?_⟩) (by assumption) ?_
  rotate_left
  · intro w hSw
    try dsimp only at hSw
    obtain ⟨x1, x2, x3, x4⟩ := hSw
    go_simp
    all_goals with_reducible rfl
  try simp only [Act.put, List.setIfInBounds_toArray, List.set_cons_zero, List.set_cons_succ]
  refine wpAnyH_take (i := 1) (oi := { dst := some 53, op := Go.Op.fieldAddr 34 (Go.Operand.tmp 5) 1, type := 0, pos := "law.go:63", after := #[], guard := none }) (v := ?_) rfl (by kernel_rfl) (by kernel_rfl) (by kernel_rfl) (fun _ _ _ h => h) (Or.inl ⟨by rfl, ?_⟩) (by assumption) ?_
  rotate_left
  · intro w hSw
    try dsimp only at hSw
    obtain ⟨x1, x2, x3, x4⟩ := hSw
    go_simp
    all_goals with_reducible rfl
  try simp only [Act.put, List.setIfInBounds_toArray, List.set_cons_zero, List.set_cons_succ]
  refine wpAnyH_take (i := 2) (oi := { dst := some 54, op := Go.Op.load 3 (Go.Operand.tmp 53), type := 3, pos := "law.go:63", after := #[{ on := 1, ground := Go.Ground.data }], guard := none }) (v := ?_) rfl (by kernel_rfl) (by kernel_rfl) (by kernel_rfl) (fun _ _ _ h => h) (Or.inl ⟨by rfl, ?_⟩) (by assumption) ?_
  rotate_left
  · intro w hSw
    try dsimp only at hSw
    obtain ⟨x1, x2, x3, x4⟩ := hSw
    go_simp
    all_goals with_reducible rfl
  try simp only [Act.put, List.setIfInBounds_toArray, List.set_cons_zero, List.set_cons_succ]
  refine wpAnyH_take (i := 4) (oi := { dst := some 56, op := Go.Op.move (Go.Operand.tmp 1), type := 25, pos := "law.go:63", after := #[], guard := none }) (v := ?_) rfl (by kernel_rfl) (by kernel_rfl) (by kernel_rfl) (fun _ _ _ h => h) (Or.inl ⟨by rfl, ?_⟩) (by assumption) ?_
  rotate_left
  · intro w hSw
    try dsimp only at hSw
    obtain ⟨x1, x2, x3, x4⟩ := hSw
    go_simp
    all_goals with_reducible rfl
  try simp only [Act.put, List.setIfInBounds_toArray, List.set_cons_zero, List.set_cons_succ]
  refine wpAnyH_take (i := 5) (oi := { dst := some 57, op := Go.Op.fieldAddr 34 (Go.Operand.tmp 5) 1, type := 0, pos := "law.go:63", after := #[], guard := none }) (v := ?_) rfl (by kernel_rfl) (by kernel_rfl) (by kernel_rfl) (fun _ _ _ h => h) (Or.inl ⟨by rfl, ?_⟩) (by assumption) ?_
  rotate_left
  · intro w hSw
    try dsimp only at hSw
    obtain ⟨x1, x2, x3, x4⟩ := hSw
    go_simp
    all_goals with_reducible rfl
  try simp only [Act.put, List.setIfInBounds_toArray, List.set_cons_zero, List.set_cons_succ]
  refine wpAnyH_take (i := 6) (oi := { dst := some 58, op := Go.Op.load 3 (Go.Operand.tmp 57), type := 3, pos := "law.go:63", after := #[{ on := 5, ground := Go.Ground.data }], guard := none }) (v := ?_) rfl (by kernel_rfl) (by kernel_rfl) (by kernel_rfl) (fun _ _ _ h => h) (Or.inl ⟨by rfl, ?_⟩) (by assumption) ?_
  rotate_left
  · intro w hSw
    try dsimp only at hSw
    obtain ⟨x1, x2, x3, x4⟩ := hSw
    go_simp
    all_goals with_reducible rfl
  try simp only [Act.put, List.setIfInBounds_toArray, List.set_cons_zero, List.set_cons_succ]
  refine wpAnyH_ready (rs := [3]) (by kernel_rfl) (by simp) ?_
  refine AllReadyH.cons (o := { dst := some 55, op := Go.Op.call { callee := Go.Callee.value (Go.Operand.func 17), args := #[Go.Operand.tmp 52, Go.Operand.tmp 54], argTypes := #[23, 3] }, type := 45, pos := "law.go:63", after := #[{ on := 0, ground := Go.Ground.data }, { on := 2, ground := Go.Ground.data }], guard := none }) rfl (fun K hK => ?_) ?_
  · go_simp
    refine (ck_twice n HKK.out).mono ?_
    rintro e y1 ⟨rfl, hk, hw⟩
    have HK1 := Lib.hid hk
    have HD1 := Lib.hid ((HDD.out).bkw hw)
    have HA1 := Lib.hid (hw.cells HAA.out (by decide) (by decide))
    have HW1 := Lib.hid (hw)
    have s1 : y1.cell? ⟨w.heap.size, 1, none⟩ = some (.int .i64 n) ∧ y1.cell? ⟨w.heap.size, 2, none⟩ = some (.int .i64 bit) ∧ y1.cell? ⟨w.heap.size, 3, none⟩ = some (.int .u32 (m : Int)) ∧ y1.cell? ⟨w.heap.size, 4, none⟩ = some (.slice pa pl pc) := ⟨cell_at HA1.out 1 _ rfl, cell_at HA1.out 2 _ rfl, cell_at HA1.out 3 _ rfl, cell_at HA1.out 4 _ rfl⟩
    clear hk hw
    go_wp2_with fail
    refine hK.out _ _ ?_ (fun hH => ?_)
    · exact s1
    clear hK K
    try simp only [Act.put, List.setIfInBounds_toArray, List.set_cons_zero, List.set_cons_succ]
    refine wpAnyH_ready (rs := [7]) (by kernel_rfl) (by simp) ?_
    refine AllReadyH.cons (o := { dst := some 59, op := Go.Op.call { callee := Go.Callee.value (Go.Operand.func 22), args := #[Go.Operand.tmp 56, Go.Operand.tmp 58], argTypes := #[25, 3] }, type := 3, pos := "law.go:63", after := #[{ on := 4, ground := Go.Ground.data }, { on := 6, ground := Go.Ground.data }, { on := 3, ground := Go.Ground.chain }], guard := none }) rfl (fun K hK => ?_) ?_
    · go_simp
      refine (dk_twice n HD1.out).mono ?_
      rintro e y2 ⟨rfl, hd, hg⟩
      have HK2 := Lib.hid (HK1.out.dk HD1.out hg)
      have HD2 := Lib.hid hd
      have HA2 := Lib.hid (HD1.out.alone hg HA1.out (by decide))
      have HS2 := Lib.hid ((SdW.ofBk HW1.out).trans (SdW.ofDk HD1.out hg))
      have s2 : y2.cell? ⟨w.heap.size, 1, none⟩ = some (.int .i64 n) ∧ y2.cell? ⟨w.heap.size, 2, none⟩ = some (.int .i64 bit) ∧ y2.cell? ⟨w.heap.size, 3, none⟩ = some (.int .u32 (m : Int)) ∧ y2.cell? ⟨w.heap.size, 4, none⟩ = some (.slice pa pl pc) := ⟨cell_at HA2.out 1 _ rfl, cell_at HA2.out 2 _ rfl, cell_at HA2.out 3 _ rfl, cell_at HA2.out 4 _ rfl⟩
      clear hd hg
      go_wp2_with fail
      refine hK.out _ _ ?_ (fun hH => ?_)
      · exact s2
      clear hK K
      try simp only [Act.put, List.setIfInBounds_toArray, List.set_cons_zero, List.set_cons_succ]
      refine wpAnyH_take (i := 8) (oi := { dst := some 60, op := Go.Op.binOp Go.BinOp.eql 3 (Go.Operand.tmp 55) (Go.Operand.tmp 59) 3, type := 4, pos := "law.go:63", after := #[{ on := 3, ground := Go.Ground.data }, { on := 7, ground := Go.Ground.data }], guard := none }) (v := ?_) rfl (by kernel_rfl) (by kernel_rfl) (by kernel_rfl) (fun _ _ _ h => h) (Or.inl ⟨by rfl, ?_⟩) (by assumption) ?_
      rotate_left
      · intro w hSw
        try dsimp only at hSw
        obtain ⟨x1, x2, x3, x4⟩ := hSw
        go_simp
        all_goals with_reducible rfl
      try simp only [Act.put, List.setIfInBounds_toArray, List.set_cons_zero, List.set_cons_succ]
      refine wpAnyH_take (i := 9) (oi := { dst := some 6, op := Go.Op.assign (Go.Operand.tmp 60), type := 4, pos := "law.go:63", after := #[{ on := 8, ground := Go.Ground.data }, { on := 7, ground := Go.Ground.chain }, { on := 0, ground := Go.Ground.phase }, { on := 1, ground := Go.Ground.phase }, { on := 2, ground := Go.Ground.phase }, { on := 3, ground := Go.Ground.phase }, { on := 4, ground := Go.Ground.phase }, { on := 5, ground := Go.Ground.phase }, { on := 6, ground := Go.Ground.phase }, { on := 7, ground := Go.Ground.phase }, { on := 8, ground := Go.Ground.phase }], guard := none }) (v := ?_) rfl (by kernel_rfl) (by kernel_rfl) (by kernel_rfl) (fun _ _ _ h => h) (Or.inl ⟨by rfl, ?_⟩) (by assumption) ?_
      rotate_left
      · intro w hSw
        try dsimp only at hSw
        obtain ⟨x1, x2, x3, x4⟩ := hSw
        go_simp
        all_goals with_reducible rfl
      try simp only [Act.put, List.setIfInBounds_toArray, List.set_cons_zero, List.set_cons_succ]
      refine wpAnyH_done (by kernel_rfl) ?_ _
      clear s1 s2
      go_wp2
      go_ret
      exact ⟨rfl, HK2.out, HD2.out, (SdW.ofBelow HB0.out).trans (HZ.out.trans HS2.out)⟩
    exact AllReadyH.nil
  exact AllReadyH.nil
set_option maxHeartbeats 8000000 in
theorem do_spoil (b1 : -9223372036854775808 ≤ bit) (b2 : bit ≤ 9223372036854775807) (hm : m < 4294967296) (w : World) (h : Ck B w b l) (hd : Dk B w b' l) : Calls Try.prog 10 #[.pointer (some ⟨b, 0, none⟩), .pointer (some ⟨b', 0, none⟩), .agg #[.int .i64 4, .int .i64 n, .int .i64 bit, .int .u32 (m : Int), .slice pa pl pc]] w fun e w' => e = .returned (.bool true) ∧ Ck B w' b (spL l n bit m) ∧ Dk B w' b' (spL l n bit m) ∧ SdW B w w' := by
  have HB0 : Hid (Below w.heap.size w (w.alloc (.cells #[.int .i64 4, .int .i64 n, .int .i64 bit, .int .u32 (m : Int), .slice pa pl pc] 34))) := Lib.hid (Joins.below_alloc1 _ _)
  have HA0 : Hid ((w.alloc (.cells #[.int .i64 4, .int .i64 n, .int .i64 bit, .int .u32 (m : Int), .slice pa pl pc] 34)).heap[w.heap.size]? = some (.cells #[.int .i64 4, .int .i64 n, .int .i64 bit, .int .u32 (m : Int), .slice pa pl pc] 34 (0, 0))) := Lib.hid (new_at rfl)
  have HK0 := Lib.hid (h.next HB0.out)
  have HD0 := Lib.hid (hd.next HB0.out)
  have HCS := fun (w : World) (h : Ck B w b l) => Lib.hid (ck_spoil n bit b1 b2 m hm h)
  have HDS := fun (w : World) (h : Dk B w b' l) => Lib.hid (dk_spoil n bit m hm h)
  clear b1 b2 hm
  clear h hd
  go_enter Try.func10, Try.ntmps10
  go_upto_region 11 with fail
  generalize w.alloc (.cells #[.int .i64 4, .int .i64 n, .int .i64 bit, .int .u32 (m : Int), .slice pa pl pc] 34) = w0 at *
  have HKK : Hid (Ck B w0.drew b l) := Lib.hid (HK0.out.asit rfl)
  have HDD : Hid (Dk B w0.drew b' l) := Lib.hid (HD0.out.asit rfl)
  have HAA : Hid (w0.drew.heap[w.heap.size]? = some (.cells #[.int .i64 4, .int .i64 n, .int .i64 bit, .int .u32 (m : Int), .slice pa pl pc] 34 (0, 0))) := HA0
  have HZ : Hid (SdW B w0 w0.drew) := Lib.hid (SdW.ofBelow (Below.refl w0.heap.size w0).drew)
  have s0 : w0.drew.cell? ⟨w.heap.size, 1, none⟩ = some (.int .i64 n) ∧ w0.drew.cell? ⟨w.heap.size, 2, none⟩ = some (.int .i64 bit) ∧ w0.drew.cell? ⟨w.heap.size, 3, none⟩ = some (.int .u32 (m : Int)) ∧ w0.drew.cell? ⟨w.heap.size, 4, none⟩ = some (.slice pa pl pc) := ⟨cell_at HAA.out 1 _ rfl, cell_at HAA.out 2 _ rfl, cell_at HAA.out 3 _ rfl, cell_at HAA.out 4 _ rfl⟩
  refine wp_region_held_drew (S := fun w' => w'.cell? ⟨w.heap.size, 1, none⟩ = some (.int .i64 n) ∧ w'.cell? ⟨w.heap.size, 2, none⟩ = some (.int .i64 bit) ∧ w'.cell? ⟨w.heap.size, 3, none⟩ = some (.int .u32 (m : Int)) ∧ w'.cell? ⟨w.heap.size, 4, none⟩ = some (.slice pa pl pc)) (by kernel_rfl) ?_ (fun hH => ?_)
  · exact s0
  refine wpAnyH_take (i := 0) (oi := { dst := some 63, op := Go.Op.move (Go.Operand.tmp 0), type := 23, pos := "law.go:65", after := #[], guard := none }) (v := ?_) rfl (by kernel_rfl) (by kernel_rfl) (by kernel_rfl) (fun _ _ _ h => h) (Or.inl ⟨by rfl, ?_⟩) (by assumption) ?_
  rotate_left
  · intro w hSw
    try dsimp only at hSw
    obtain ⟨x1, x2, x3, x4⟩ := hSw
    go_simp
    all_goals with_reducible rfl
  try simp only [Act.put, List.setIfInBounds_toArray, List.set_cons_zero, List.set_cons_succ]
  refine wpAnyH_take (i := 1) (oi := { dst := some 64, op := Go.Op.fieldAddr 34 (Go.Operand.tmp 5) 1, type := 0, pos := "law.go:65", after := #[], guard := none }) (v := ?_) rfl (by kernel_rfl) (by kernel_rfl) (by kernel_rfl) (fun _ _ _ h => h) (Or.inl ⟨by rfl, ?_⟩) (by assumption) ?_
  rotate_left
  · intro w hSw
    try dsimp only at hSw
    obtain ⟨x1, x2, x3, x4⟩ := hSw
    go_simp
    all_goals with_reducible rfl
  try simp only [Act.put, List.setIfInBounds_toArray, List.set_cons_zero, List.set_cons_succ]
  refine wpAnyH_take (i := 2) (oi := { dst := some 65, op := Go.Op.load 3 (Go.Operand.tmp 64), type := 3, pos := "law.go:65", after := #[{ on := 1, ground := Go.Ground.data }], guard := none }) (v := ?_) rfl (by kernel_rfl) (by kernel_rfl) (by kernel_rfl) (fun _ _ _ h => h) (Or.inl ⟨by rfl, ?_⟩) (by assumption) ?_
  rotate_left
  · intro w hSw
    try dsimp only at hSw
    obtain ⟨x1, x2, x3, x4⟩ := hSw
    go_simp
    all_goals with_reducible rfl
  try simp only [Act.put, List.setIfInBounds_toArray, List.set_cons_zero, List.set_cons_succ]
  refine wpAnyH_take (i := 3) (oi := { dst := some 66, op := Go.Op.fieldAddr 34 (Go.Operand.tmp 5) 2, type := 0, pos := "law.go:65", after := #[], guard := none }) (v := ?_) rfl (by kernel_rfl) (by kernel_rfl) (by kernel_rfl) (fun _ _ _ h => h) (Or.inl ⟨by rfl, ?_⟩) (by assumption) ?_
  rotate_left
  · intro w hSw
    try dsimp only at hSw
    obtain ⟨x1, x2, x3, x4⟩ := hSw
    go_simp
    all_goals with_reducible rfl
  try simp only [Act.put, List.setIfInBounds_toArray, List.set_cons_zero, List.set_cons_succ]
  refine wpAnyH_take (i := 4) (oi := { dst := some 67, op := Go.Op.load 3 (Go.Operand.tmp 66), type := 3, pos := "law.go:65", after := #[{ on := 3, ground := Go.Ground.data }], guard := none }) (v := ?_) rfl (by kernel_rfl) (by kernel_rfl) (by kernel_rfl) (fun _ _ _ h => h) (Or.inl ⟨by rfl, ?_⟩) (by assumption) ?_
  rotate_left
  · intro w hSw
    try dsimp only at hSw
    obtain ⟨x1, x2, x3, x4⟩ := hSw
    go_simp
    all_goals with_reducible rfl
  try simp only [Act.put, List.setIfInBounds_toArray, List.set_cons_zero, List.set_cons_succ]
  refine wpAnyH_take (i := 5) (oi := { dst := some 68, op := Go.Op.fieldAddr 34 (Go.Operand.tmp 5) 3, type := 0, pos := "law.go:65", after := #[], guard := none }) (v := ?_) rfl (by kernel_rfl) (by kernel_rfl) (by kernel_rfl) (fun _ _ _ h => h) (Or.inl ⟨by rfl, ?_⟩) (by assumption) ?_
  rotate_left
  · intro w hSw
    try dsimp only at hSw
    obtain ⟨x1, x2, x3, x4⟩ := hSw
    go_simp
    all_goals with_reducible rfl
  try simp only [Act.put, List.setIfInBounds_toArray, List.set_cons_zero, List.set_cons_succ]
  refine wpAnyH_take (i := 6) (oi := { dst := some 69, op := Go.Op.load 32 (Go.Operand.tmp 68), type := 32, pos := "law.go:65", after := #[{ on := 5, ground := Go.Ground.data }], guard := none }) (v := ?_) rfl (by kernel_rfl) (by kernel_rfl) (by kernel_rfl) (fun _ _ _ h => h) (Or.inl ⟨by rfl, ?_⟩) (by assumption) ?_
  rotate_left
  · intro w hSw
    try dsimp only at hSw
    obtain ⟨x1, x2, x3, x4⟩ := hSw
    go_simp
    all_goals with_reducible rfl
  try simp only [Act.put, List.setIfInBounds_toArray, List.set_cons_zero, List.set_cons_succ]
  refine wpAnyH_take (i := 8) (oi := { dst := some 71, op := Go.Op.move (Go.Operand.tmp 1), type := 25, pos := "law.go:65", after := #[], guard := none }) (v := ?_) rfl (by kernel_rfl) (by kernel_rfl) (by kernel_rfl) (fun _ _ _ h => h) (Or.inl ⟨by rfl, ?_⟩) (by assumption) ?_
  rotate_left
  · intro w hSw
    try dsimp only at hSw
    obtain ⟨x1, x2, x3, x4⟩ := hSw
    go_simp
    all_goals with_reducible rfl
  try simp only [Act.put, List.setIfInBounds_toArray, List.set_cons_zero, List.set_cons_succ]
  refine wpAnyH_take (i := 9) (oi := { dst := some 72, op := Go.Op.fieldAddr 34 (Go.Operand.tmp 5) 1, type := 0, pos := "law.go:65", after := #[], guard := none }) (v := ?_) rfl (by kernel_rfl) (by kernel_rfl) (by kernel_rfl) (fun _ _ _ h => h) (Or.inl ⟨by rfl, ?_⟩) (by assumption) ?_
  rotate_left
  · intro w hSw
    try dsimp only at hSw
    obtain ⟨x1, x2, x3, x4⟩ := hSw
    go_simp
    all_goals with_reducible rfl
  try simp only [Act.put, List.setIfInBounds_toArray, List.set_cons_zero, List.set_cons_succ]
  refine wpAnyH_take (i := 10) (oi := { dst := some 73, op := Go.Op.load 3 (Go.Operand.tmp 72), type := 3, pos := "law.go:65", after := #[{ on := 9, ground := Go.Ground.data }], guard := none }) (v := ?_) rfl (by kernel_rfl) (by kernel_rfl) (by kernel_rfl) (fun _ _ _ h => h) (Or.inl ⟨by rfl, ?_⟩) (by assumption) ?_
  rotate_left
  · intro w hSw
    try dsimp only at hSw
    obtain ⟨x1, x2, x3, x4⟩ := hSw
    go_simp
    all_goals with_reducible rfl
  try simp only [Act.put, List.setIfInBounds_toArray, List.set_cons_zero, List.set_cons_succ]
  refine wpAnyH_take (i := 11) (oi := { dst := some 74, op := Go.Op.fieldAddr 34 (Go.Operand.tmp 5) 2, type := 0, pos := "law.go:65", after := #[], guard := none }) (v := ?_) rfl (by kernel_rfl) (by kernel_rfl) (by kernel_rfl) (fun _ _ _ h => h) (Or.inl ⟨by rfl, ?_⟩) (by assumption) ?_
  rotate_left
  · intro w hSw
    try dsimp only at hSw
    obtain ⟨x1, x2, x3, x4⟩ := hSw
    go_simp
    all_goals with_reducible rfl
  try simp only [Act.put, List.setIfInBounds_toArray, List.set_cons_zero, List.set_cons_succ]
  refine wpAnyH_take (i := 12) (oi := { dst := some 75, op := Go.Op.load 3 (Go.Operand.tmp 74), type := 3, pos := "law.go:65", after := #[{ on := 11, ground := Go.Ground.data }], guard := none }) (v := ?_) rfl (by kernel_rfl) (by kernel_rfl) (by kernel_rfl) (fun _ _ _ h => h) (Or.inl ⟨by rfl, ?_⟩) (by assumption) ?_
  rotate_left
  · intro w hSw
    try dsimp only at hSw
    obtain ⟨x1, x2, x3, x4⟩ := hSw
    go_simp
    all_goals with_reducible rfl
  try simp only [Act.put, List.setIfInBounds_toArray, List.set_cons_zero, List.set_cons_succ]
  refine wpAnyH_take (i := 13) (oi := { dst := some 76, op := Go.Op.fieldAddr 34 (Go.Operand.tmp 5) 3, type := 0, pos := "law.go:65", after := #[], guard := none }) (v := ?_) rfl (by kernel_rfl) (by kernel_rfl) (by kernel_rfl) (fun _ _ _ h => h) (Or.inl ⟨by rfl, ?_⟩) (by assumption) ?_
  rotate_left
  · intro w hSw
    try dsimp only at hSw
    obtain ⟨x1, x2, x3, x4⟩ := hSw
    go_simp
    all_goals with_reducible rfl
  try simp only [Act.put, List.setIfInBounds_toArray, List.set_cons_zero, List.set_cons_succ]
  refine wpAnyH_take (i := 14) (oi := { dst := some 77, op := Go.Op.load 32 (Go.Operand.tmp 76), type := 32, pos := "law.go:65", after := #[{ on := 13, ground := Go.Ground.data }], guard := none }) (v := ?_) rfl (by kernel_rfl) (by kernel_rfl) (by kernel_rfl) (fun _ _ _ h => h) (Or.inl ⟨by rfl, ?_⟩) (by assumption) ?_
  rotate_left
  · intro w hSw
    try dsimp only at hSw
    obtain ⟨x1, x2, x3, x4⟩ := hSw
    go_simp
    all_goals with_reducible rfl
  try simp only [Act.put, List.setIfInBounds_toArray, List.set_cons_zero, List.set_cons_succ]
  refine wpAnyH_ready (rs := [7]) (by kernel_rfl) (by simp) ?_
  refine AllReadyH.cons (o := { dst := some 70, op := Go.Op.call { callee := Go.Callee.value (Go.Operand.func 18), args := #[Go.Operand.tmp 63, Go.Operand.tmp 65, Go.Operand.tmp 67, Go.Operand.tmp 69], argTypes := #[23, 3, 3, 32] }, type := 45, pos := "law.go:65", after := #[{ on := 0, ground := Go.Ground.data }, { on := 2, ground := Go.Ground.data }, { on := 4, ground := Go.Ground.data }, { on := 6, ground := Go.Ground.data }], guard := none }) rfl (fun K hK => ?_) ?_
  · go_simp
    refine ((HCS _ HKK.out).out).mono ?_
    rintro e y1 ⟨rfl, hk, hw⟩
    have HK1 := Lib.hid hk
    have HD1 := Lib.hid ((HDD.out).bkw hw)
    have HA1 := Lib.hid (hw.cells HAA.out (by decide) (by decide))
    have HW1 := Lib.hid (hw)
    have s1 : y1.cell? ⟨w.heap.size, 1, none⟩ = some (.int .i64 n) ∧ y1.cell? ⟨w.heap.size, 2, none⟩ = some (.int .i64 bit) ∧ y1.cell? ⟨w.heap.size, 3, none⟩ = some (.int .u32 (m : Int)) ∧ y1.cell? ⟨w.heap.size, 4, none⟩ = some (.slice pa pl pc) := ⟨cell_at HA1.out 1 _ rfl, cell_at HA1.out 2 _ rfl, cell_at HA1.out 3 _ rfl, cell_at HA1.out 4 _ rfl⟩
    clear hk hw
    go_wp2_with fail
    refine hK.out _ _ ?_ (fun hH => ?_)
    · exact s1
    clear hK K
    try simp only [Act.put, List.setIfInBounds_toArray, List.set_cons_zero, List.set_cons_succ]
    refine wpAnyH_ready (rs := [15]) (by kernel_rfl) (by simp) ?_
    refine AllReadyH.cons (o := { dst := some 78, op := Go.Op.call { callee := Go.Callee.value (Go.Operand.func 23), args := #[Go.Operand.tmp 71, Go.Operand.tmp 73, Go.Operand.tmp 75, Go.Operand.tmp 77], argTypes := #[25, 3, 3, 32] }, type := 3, pos := "law.go:65", after := #[{ on := 8, ground := Go.Ground.data }, { on := 10, ground := Go.Ground.data }, { on := 12, ground := Go.Ground.data }, { on := 14, ground := Go.Ground.data }, { on := 7, ground := Go.Ground.chain }], guard := none }) rfl (fun K hK => ?_) ?_
    · go_simp
      refine ((HDS _ HD1.out).out).mono ?_
      rintro e y2 ⟨rfl, hd, hg⟩
      have HK2 := Lib.hid (HK1.out.dk HD1.out hg)
      have HD2 := Lib.hid hd
      have HA2 := Lib.hid (HD1.out.alone hg HA1.out (by decide))
      have HS2 := Lib.hid ((SdW.ofBk HW1.out).trans (SdW.ofDk HD1.out hg))
      have s2 : y2.cell? ⟨w.heap.size, 1, none⟩ = some (.int .i64 n) ∧ y2.cell? ⟨w.heap.size, 2, none⟩ = some (.int .i64 bit) ∧ y2.cell? ⟨w.heap.size, 3, none⟩ = some (.int .u32 (m : Int)) ∧ y2.cell? ⟨w.heap.size, 4, none⟩ = some (.slice pa pl pc) := ⟨cell_at HA2.out 1 _ rfl, cell_at HA2.out 2 _ rfl, cell_at HA2.out 3 _ rfl, cell_at HA2.out 4 _ rfl⟩
      clear hd hg
      go_wp2_with fail
      refine hK.out _ _ ?_ (fun hH => ?_)
      · exact s2
      clear hK K
      try simp only [Act.put, List.setIfInBounds_toArray, List.set_cons_zero, List.set_cons_succ]
      refine wpAnyH_take (i := 16) (oi := { dst := some 79, op := Go.Op.binOp Go.BinOp.eql 3 (Go.Operand.tmp 70) (Go.Operand.tmp 78) 3, type := 4, pos := "law.go:65", after := #[{ on := 7, ground := Go.Ground.data }, { on := 15, ground := Go.Ground.data }], guard := none }) (v := ?_) rfl (by kernel_rfl) (by kernel_rfl) (by kernel_rfl) (fun _ _ _ h => h) (Or.inl ⟨by rfl, ?_⟩) (by assumption) ?_
      rotate_left
      · intro w hSw
        try dsimp only at hSw
        obtain ⟨x1, x2, x3, x4⟩ := hSw
        go_simp
        all_goals with_reducible rfl
      try simp only [Act.put, List.setIfInBounds_toArray, List.set_cons_zero, List.set_cons_succ]
      refine wpAnyH_take (i := 17) (oi := { dst := some 6, op := Go.Op.assign (Go.Operand.tmp 79), type := 4, pos := "law.go:65", after := #[{ on := 16, ground := Go.Ground.data }, { on := 15, ground := Go.Ground.chain }, { on := 0, ground := Go.Ground.phase }, { on := 1, ground := Go.Ground.phase }, { on := 2, ground := Go.Ground.phase }, { on := 3, ground := Go.Ground.phase }, { on := 4, ground := Go.Ground.phase }, { on := 5, ground := Go.Ground.phase }, { on := 6, ground := Go.Ground.phase }, { on := 7, ground := Go.Ground.phase }, { on := 8, ground := Go.Ground.phase }, { on := 9, ground := Go.Ground.phase }, { on := 10, ground := Go.Ground.phase }, { on := 11, ground := Go.Ground.phase }, { on := 12, ground := Go.Ground.phase }, { on := 13, ground := Go.Ground.phase }, { on := 14, ground := Go.Ground.phase }, { on := 15, ground := Go.Ground.phase }, { on := 16, ground := Go.Ground.phase }], guard := none }) (v := ?_) rfl (by kernel_rfl) (by kernel_rfl) (by kernel_rfl) (fun _ _ _ h => h) (Or.inl ⟨by rfl, ?_⟩) (by assumption) ?_
      rotate_left
      · intro w hSw
        try dsimp only at hSw
        obtain ⟨x1, x2, x3, x4⟩ := hSw
        go_simp
        all_goals with_reducible rfl
      try simp only [Act.put, List.setIfInBounds_toArray, List.set_cons_zero, List.set_cons_succ]
      refine wpAnyH_done (by kernel_rfl) ?_ _
      clear s1 s2
      go_wp2
      go_ret
      exact ⟨rfl, HK2.out, HD2.out, (SdW.ofBelow HB0.out).trans (HZ.out.trans HS2.out)⟩
    exact AllReadyH.nil
  exact AllReadyH.nil
set_option maxHeartbeats 8000000 in
theorem do_add (hs : ∀ p ∈ ps, p.2.2.size ≤ 60) (hpl : pl ≤ 20) (hc : pl ≤ pc) (hn : pa = none → pc = 0) (ws : World) (hp : PsAt ws pa pl ps) (hB : ws.heap.size ≤ B) (w : World) (hws : Below B ws w) (hBw : B ≤ w.heap.size) (h : Ck B w b l) (hd : Dk B w b' l) : Calls Try.prog 10 #[.pointer (some ⟨b, 0, none⟩), .pointer (some ⟨b', 0, none⟩), .agg #[.int .i64 1, .int .i64 n, .int .i64 bit, .int .u32 (m : Int), .slice pa pl pc]] w fun e w' => e = .returned (.bool true) ∧ Ck B w' b (addL l ps) ∧ Dk B w' b' (addL l ps) ∧ SdW B w w' := by
  have HB0 : Hid (Below w.heap.size w (w.alloc (.cells #[.int .i64 1, .int .i64 n, .int .i64 bit, .int .u32 (m : Int), .slice pa pl pc] 34))) := Lib.hid (Joins.below_alloc1 _ _)
  have HA0 : Hid ((w.alloc (.cells #[.int .i64 1, .int .i64 n, .int .i64 bit, .int .u32 (m : Int), .slice pa pl pc] 34)).heap[w.heap.size]? = some (.cells #[.int .i64 1, .int .i64 n, .int .i64 bit, .int .u32 (m : Int), .slice pa pl pc] 34 (0, 0))) := Lib.hid (new_at rfl)
  have HK0 := Lib.hid (h.next HB0.out)
  have HD0 := Lib.hid (hd.next HB0.out)
  have HPW := Lib.hid hp
  have HBB := Lib.hid hB
  have HBS := Lib.hid hws
  have HBL := Lib.hid hBw
  have HPC := Lib.hid (And.intro hc hn)
  have HSS : Hid (∀ p ∈ ps, p.2.2.size ≤ 1000) := Lib.hid fun p hp => Nat.le_trans (hs p hp) (by decide)
  have HPS := Lib.hid hp.size
  have HGN : Hid (0 < pl → ∀ g off, pa = some ⟨g, off, none⟩ → g ≠ b') := Lib.hid fun h0 g off e => by
    obtain ⟨g1, o1, e1, hl, _⟩ := hp.lies h0
    rw [e] at e1
    cases e1
    have := hd.lo
    omega
  clear hp hB hws hBw hc hn hs
  clear h hd
  go_enter Try.func10, Try.ntmps10
  go_upto_region 3 with fail
  generalize w.alloc (.cells #[.int .i64 1, .int .i64 n, .int .i64 bit, .int .u32 (m : Int), .slice pa pl pc] 34) = w0 at *
  have HPP : Hid (∀ W, Below w0.heap.size w0 W → PsAt W pa pl ps) := Lib.hid fun W hW => psAt_below HPW.out (((HBS.out.trans (HB0.out.mono HBL.out))).trans (hW.mono (Nat.le_trans HBL.out HB0.out.size))) HBB.out
  have s0 : w0.drew.cell? ⟨w.heap.size, 1, none⟩ = some (.int .i64 n) ∧ w0.drew.cell? ⟨w.heap.size, 2, none⟩ = some (.int .i64 bit) ∧ w0.drew.cell? ⟨w.heap.size, 3, none⟩ = some (.int .u32 (m : Int)) ∧ w0.drew.cell? ⟨w.heap.size, 4, none⟩ = some (.slice pa pl pc) := ⟨cell_at HA0.out 1 _ rfl, cell_at HA0.out 2 _ rfl, cell_at HA0.out 3 _ rfl, cell_at HA0.out 4 _ rfl⟩
  refine wp_region_held_drew (S := fun w' => w'.cell? ⟨w.heap.size, 1, none⟩ = some (.int .i64 n) ∧ w'.cell? ⟨w.heap.size, 2, none⟩ = some (.int .i64 bit) ∧ w'.cell? ⟨w.heap.size, 3, none⟩ = some (.int .u32 (m : Int)) ∧ w'.cell? ⟨w.heap.size, 4, none⟩ = some (.slice pa pl pc)) (by kernel_rfl) ?_ (fun hH => ?_)
  · exact s0
  refine wpAnyH_take (i := 0) (oi := { dst := some 15, op := Go.Op.move (Go.Operand.tmp 0), type := 23, pos := "law.go:57", after := #[], guard := none }) (v := ?_) rfl (by kernel_rfl) (by kernel_rfl) (by kernel_rfl) (fun _ _ _ h => h) (Or.inl ⟨by rfl, ?_⟩) (by assumption) ?_
  rotate_left
  · intro w hSw
    try dsimp only at hSw
    obtain ⟨x1, x2, x3, x4⟩ := hSw
    go_simp
    all_goals with_reducible rfl
  try simp only [Act.put, List.setIfInBounds_toArray, List.set_cons_zero, List.set_cons_succ]
  refine wpAnyH_take (i := 2) (oi := { dst := some 17, op := Go.Op.fieldAddr 34 (Go.Operand.tmp 5) 4, type := 0, pos := "law.go:57", after := #[], guard := none }) (v := ?_) rfl (by kernel_rfl) (by kernel_rfl) (by kernel_rfl) (fun _ _ _ h => h) (Or.inl ⟨by rfl, ?_⟩) (by assumption) ?_
  rotate_left
  · intro w hSw
    try dsimp only at hSw
    obtain ⟨x1, x2, x3, x4⟩ := hSw
    go_simp
    all_goals with_reducible rfl
  try simp only [Act.put, List.setIfInBounds_toArray, List.set_cons_zero, List.set_cons_succ]
  refine wpAnyH_take (i := 3) (oi := { dst := some 18, op := Go.Op.load 26 (Go.Operand.tmp 17), type := 26, pos := "law.go:57", after := #[{ on := 2, ground := Go.Ground.data }], guard := none }) (v := ?_) rfl (by kernel_rfl) (by kernel_rfl) (by kernel_rfl) (fun _ _ _ h => h) (Or.inl ⟨by rfl, ?_⟩) (by assumption) ?_
  rotate_left
  · intro w hSw
    try dsimp only at hSw
    obtain ⟨x1, x2, x3, x4⟩ := hSw
    go_simp
    all_goals with_reducible rfl
  try simp only [Act.put, List.setIfInBounds_toArray, List.set_cons_zero, List.set_cons_succ]
  refine wpAnyH_take (i := 6) (oi := { dst := some 21, op := Go.Op.move (Go.Operand.tmp 1), type := 25, pos := "law.go:57", after := #[], guard := none }) (v := ?_) rfl (by kernel_rfl) (by kernel_rfl) (by kernel_rfl) (fun _ _ _ h => h) (Or.inl ⟨by rfl, ?_⟩) (by assumption) ?_
  rotate_left
  · intro w hSw
    try dsimp only at hSw
    obtain ⟨x1, x2, x3, x4⟩ := hSw
    go_simp
    all_goals with_reducible rfl
  try simp only [Act.put, List.setIfInBounds_toArray, List.set_cons_zero, List.set_cons_succ]
  refine wpAnyH_take (i := 7) (oi := { dst := some 22, op := Go.Op.fieldAddr 34 (Go.Operand.tmp 5) 4, type := 0, pos := "law.go:57", after := #[], guard := none }) (v := ?_) rfl (by kernel_rfl) (by kernel_rfl) (by kernel_rfl) (fun _ _ _ h => h) (Or.inl ⟨by rfl, ?_⟩) (by assumption) ?_
  rotate_left
  · intro w hSw
    try dsimp only at hSw
    obtain ⟨x1, x2, x3, x4⟩ := hSw
    go_simp
    all_goals with_reducible rfl
  try simp only [Act.put, List.setIfInBounds_toArray, List.set_cons_zero, List.set_cons_succ]
  refine wpAnyH_take (i := 8) (oi := { dst := some 23, op := Go.Op.load 26 (Go.Operand.tmp 22), type := 26, pos := "law.go:57", after := #[{ on := 7, ground := Go.Ground.data }], guard := none }) (v := ?_) rfl (by kernel_rfl) (by kernel_rfl) (by kernel_rfl) (fun _ _ _ h => h) (Or.inl ⟨by rfl, ?_⟩) (by assumption) ?_
  rotate_left
  · intro w hSw
    try dsimp only at hSw
    obtain ⟨x1, x2, x3, x4⟩ := hSw
    go_simp
    all_goals with_reducible rfl
  try simp only [Act.put, List.setIfInBounds_toArray, List.set_cons_zero, List.set_cons_succ]
  refine wpAnyH_ready (rs := [1]) (by kernel_rfl) (by simp) ?_
  refine AllReadyH.cons (o := { dst := some 16, op := Go.Op.buildSlice 26 0 #[], type := 26, pos := "law.go:57", after := #[], guard := none }) rfl (fun K hK => ?_) ?_
  · have HW1 : Hid (Below w0.heap.size w0 (w0.drew.alloc (.cells #[] 39))) := Lib.hid ((Below.refl w0.heap.size w0).drew.trans (Joins.below_alloc1 w0.drew _))
    have HA1 : Hid ((w0.drew.alloc (.cells #[] 39)).heap[w.heap.size]? = some (.cells #[.int .i64 1, .int .i64 n, .int .i64 bit, .int .u32 (m : Int), .slice pa pl pc] 34 (0, 0))) := Lib.hid (kept_at HA0.out HW1.out)
    have s1 : (w0.drew.alloc (.cells #[] 39)).cell? ⟨w.heap.size, 1, none⟩ = some (.int .i64 n) ∧ (w0.drew.alloc (.cells #[] 39)).cell? ⟨w.heap.size, 2, none⟩ = some (.int .i64 bit) ∧ (w0.drew.alloc (.cells #[] 39)).cell? ⟨w.heap.size, 3, none⟩ = some (.int .u32 (m : Int)) ∧ (w0.drew.alloc (.cells #[] 39)).cell? ⟨w.heap.size, 4, none⟩ = some (.slice pa pl pc) := ⟨cell_at HA1.out 1 _ rfl, cell_at HA1.out 2 _ rfl, cell_at HA1.out 3 _ rfl, cell_at HA1.out 4 _ rfl⟩
    go_simp
    refine hK.out _ _ ?_ (fun hH => ?_)
    · exact s1
    clear hK K
    try simp only [Act.put, List.setIfInBounds_toArray, List.set_cons_zero, List.set_cons_succ]
    refine wpAnyH_ready (rs := [4]) (by kernel_rfl) (by simp) ?_
    refine AllReadyH.cons (o := { dst := some 19, op := Go.Op.call { callee := Go.Callee.builtin Go.Builtin.append, args := #[Go.Operand.tmp 16, Go.Operand.tmp 18], argTypes := #[26, 26] }, type := 26, pos := "law.go:57", after := #[{ on := 1, ground := Go.Ground.data }, { on := 3, ground := Go.Ground.data }], guard := none }) rfl (fun K hK => ?_) ?_
    · obtain ⟨a1, c1', w6, hrun, hrw6, hgr6, _⟩ := run_appP (w0.drew.alloc (.cells #[] 39)) 26 w0.heap.size _ [] (rowP_new w0.drew) pa pl pc ps (HPP.out _ HW1.out) HPC.out.1 HPC.out.2 (by simp only [List.length_nil]; omega) HW1.out.size
      simp only [List.length_nil, Nat.zero_add, List.nil_append] at hrun hrw6
      have HW6 := Lib.hid (belP (rowP_new w0.drew) HW1.out hgr6 HW1.out.size)
      have HR6 := Lib.hid hrw6
      have HA6 := Lib.hid (kept_at HA0.out HW6.out)
      have s6 : w6.cell? ⟨w.heap.size, 1, none⟩ = some (.int .i64 n) ∧ w6.cell? ⟨w.heap.size, 2, none⟩ = some (.int .i64 bit) ∧ w6.cell? ⟨w.heap.size, 3, none⟩ = some (.int .u32 (m : Int)) ∧ w6.cell? ⟨w.heap.size, 4, none⟩ = some (.slice pa pl pc) := ⟨cell_at HA6.out 1 _ rfl, cell_at HA6.out 2 _ rfl, cell_at HA6.out 3 _ rfl, cell_at HA6.out 4 _ rfl⟩
      clear hrw6 hgr6
      refine step_append_run (by rfl) (.tmp 16) (.tmp 18) 26 rfl _ _ _ rfl rfl hrun ?_
      refine hK.out _ _ ?_ (fun hH => ?_)
      · exact s6
      clear hK K
      try simp only [Act.put, List.setIfInBounds_toArray, List.set_cons_zero, List.set_cons_succ]
      refine wpAnyH_ready (rs := [5]) (by kernel_rfl) (by simp) ?_
      refine AllReadyH.cons (o := { dst := some 20, op := Go.Op.call { callee := Go.Callee.value (Go.Operand.func 15), args := #[Go.Operand.tmp 15, Go.Operand.tmp 19], argTypes := #[23, 26] }, type := 3, pos := "law.go:57", after := #[{ on := 0, ground := Go.Ground.data }, { on := 4, ground := Go.Ground.data }, { on := 4, ground := Go.Ground.chain }], guard := none }) rfl (fun K hK => ?_) ?_
      · go_simp
        refine (ck_add a1 pl c1' ps (HK0.out.next HW6.out) (HR6.out.isP HPS.out.symm).1 (HR6.out.isP HPS.out.symm).2.1 (fun g off e => by
          subst e
          obtain ⟨cur, hc⟩ := HR6.out.typ g rfl
          exact ⟨_, _, hc⟩) HSS.out (by omega)).mono ?_
        rintro e y1 ⟨rfl, hk, hw⟩
        have HK1 := Lib.hid hk
        have HD1 := Lib.hid ((HD0.out.next HW6.out).bkw hw)
        have HAY := Lib.hid (hw.cells HA6.out (by decide) (by decide))
        have HSW : Hid (SdW B w0 y1) := Lib.hid ((SdW.ofBelow HW6.out).trans (SdW.ofBk hw))
        have sy1 : y1.cell? ⟨w.heap.size, 1, none⟩ = some (.int .i64 n) ∧ y1.cell? ⟨w.heap.size, 2, none⟩ = some (.int .i64 bit) ∧ y1.cell? ⟨w.heap.size, 3, none⟩ = some (.int .u32 (m : Int)) ∧ y1.cell? ⟨w.heap.size, 4, none⟩ = some (.slice pa pl pc) := ⟨cell_at HAY.out 1 _ rfl, cell_at HAY.out 2 _ rfl, cell_at HAY.out 3 _ rfl, cell_at HAY.out 4 _ rfl⟩
        have HBY : Hid (Below B ws y1) := Lib.hid (HBS.out.trans (((SdW.ofBelow (B := B) HB0.out).trans HSW.out).below HBL.out))
        clear hk hw hrun
        go_wp2_with fail
        refine hK.out _ _ ?_ (fun hH => ?_)
        · exact sy1
        clear hK K
        try simp only [Act.put, List.setIfInBounds_toArray, List.set_cons_zero, List.set_cons_succ]
        refine wpAnyH_ready (rs := [9]) (by kernel_rfl) (by simp) ?_
        refine AllReadyH.cons (o := { dst := some 24, op := Go.Op.call { callee := Go.Callee.value (Go.Operand.func 20), args := #[Go.Operand.tmp 21, Go.Operand.tmp 23], argTypes := #[25, 26] }, type := 3, pos := "law.go:57", after := #[{ on := 6, ground := Go.Ground.data }, { on := 8, ground := Go.Ground.data }, { on := 5, ground := Go.Ground.chain }], guard := none }) rfl (fun K hK => ?_) ?_
        · go_simp
          refine (dk_add pa pl pc ps HD1.out (psAt_below HPW.out HBY.out HBB.out) HGN.out HSS.out (by omega)).mono ?_
          rintro e y2 ⟨rfl, hd, hg⟩
          have HK2 := Lib.hid (HK1.out.dk HD1.out hg)
          have HD2 := Lib.hid hd
          have HA2 := Lib.hid (HD1.out.alone hg HAY.out (by decide))
          have HS2 := Lib.hid (HSW.out.trans (SdW.ofDk HD1.out hg))
          have s2 : y2.cell? ⟨w.heap.size, 1, none⟩ = some (.int .i64 n) ∧ y2.cell? ⟨w.heap.size, 2, none⟩ = some (.int .i64 bit) ∧ y2.cell? ⟨w.heap.size, 3, none⟩ = some (.int .u32 (m : Int)) ∧ y2.cell? ⟨w.heap.size, 4, none⟩ = some (.slice pa pl pc) := ⟨cell_at HA2.out 1 _ rfl, cell_at HA2.out 2 _ rfl, cell_at HA2.out 3 _ rfl, cell_at HA2.out 4 _ rfl⟩
          clear hd hg
          go_wp2_with fail
          refine hK.out _ _ ?_ (fun hH => ?_)
          · exact s2
          clear hK K
          try simp only [Act.put, List.setIfInBounds_toArray, List.set_cons_zero, List.set_cons_succ]
          refine wpAnyH_take (i := 10) (oi := { dst := some 25, op := Go.Op.binOp Go.BinOp.eql 3 (Go.Operand.tmp 20) (Go.Operand.tmp 24) 3, type := 4, pos := "law.go:57", after := #[{ on := 5, ground := Go.Ground.data }, { on := 9, ground := Go.Ground.data }], guard := none }) (v := ?_) rfl (by kernel_rfl) (by kernel_rfl) (by kernel_rfl) (fun _ _ _ h => h) (Or.inl ⟨by rfl, ?_⟩) (by assumption) ?_
          rotate_left
          · intro w hSw
            try dsimp only at hSw
            obtain ⟨x1, x2, x3, x4⟩ := hSw
            go_simp
            all_goals with_reducible rfl
          try simp only [Act.put, List.setIfInBounds_toArray, List.set_cons_zero, List.set_cons_succ]
          refine wpAnyH_take (i := 11) (oi := { dst := some 6, op := Go.Op.assign (Go.Operand.tmp 25), type := 4, pos := "law.go:57", after := #[{ on := 10, ground := Go.Ground.data }, { on := 9, ground := Go.Ground.chain }, { on := 0, ground := Go.Ground.phase }, { on := 1, ground := Go.Ground.phase }, { on := 2, ground := Go.Ground.phase }, { on := 3, ground := Go.Ground.phase }, { on := 4, ground := Go.Ground.phase }, { on := 5, ground := Go.Ground.phase }, { on := 6, ground := Go.Ground.phase }, { on := 7, ground := Go.Ground.phase }, { on := 8, ground := Go.Ground.phase }, { on := 9, ground := Go.Ground.phase }, { on := 10, ground := Go.Ground.phase }], guard := none }) (v := ?_) rfl (by kernel_rfl) (by kernel_rfl) (by kernel_rfl) (fun _ _ _ h => h) (Or.inl ⟨by rfl, ?_⟩) (by assumption) ?_
          rotate_left
          · intro w hSw
            try dsimp only at hSw
            obtain ⟨x1, x2, x3, x4⟩ := hSw
            go_simp
            all_goals with_reducible rfl
          try simp only [Act.put, List.setIfInBounds_toArray, List.set_cons_zero, List.set_cons_succ]
          refine wpAnyH_done (by kernel_rfl) ?_ _
          clear s1 s6 sy1 s2
          go_wp2
          go_ret
          exact ⟨rfl, HK2.out, HD2.out, (SdW.ofBelow HB0.out).trans HS2.out⟩
        exact AllReadyH.nil
      exact AllReadyH.nil
    exact AllReadyH.nil
  exact AllReadyH.nil
set_option maxHeartbeats 8000000 in
theorem do_take  (w : World) (h : Ck B w b l) (hd : Dk B w b' l) : Calls Try.prog 10 #[.pointer (some ⟨b, 0, none⟩), .pointer (some ⟨b', 0, none⟩), .agg #[.int .i64 2, .int .i64 n, .int .i64 bit, .int .u32 (m : Int), .slice pa pl pc]] w fun e w' => e = .returned (.bool true) ∧ Ck B w' b (tkL l n) ∧ Dk B w' b' (tkL l n) ∧ SdW B w w' := by
  have HB0 : Hid (Below w.heap.size w (w.alloc (.cells #[.int .i64 2, .int .i64 n, .int .i64 bit, .int .u32 (m : Int), .slice pa pl pc] 34))) := Lib.hid (Joins.below_alloc1 _ _)
  have HA0 : Hid ((w.alloc (.cells #[.int .i64 2, .int .i64 n, .int .i64 bit, .int .u32 (m : Int), .slice pa pl pc] 34)).heap[w.heap.size]? = some (.cells #[.int .i64 2, .int .i64 n, .int .i64 bit, .int .u32 (m : Int), .slice pa pl pc] 34 (0, 0))) := Lib.hid (new_at rfl)
  have HK0 := Lib.hid (h.next HB0.out)
  have HD0 := Lib.hid (hd.next HB0.out)
  obtain ⟨⟨pf, pt, pd⟩, hp⟩ : ∃ p, atP l n = p := ⟨_, rfl⟩
  obtain ⟨ok, hok⟩ : ∃ ok, decide (inb l n) = ok := ⟨_, rfl⟩
  have HC := fun (w : World) (h : Ck B w b l) => Lib.hid (ck_take n h)
  have HD := fun (w : World) (h : Dk B w b' l) => Lib.hid (dk_take n h)
  rw [hp, hok] at HC HD
  unfold pv at HC HD
  simp only at HC HD
  have qe := eq_yes pd
  clear hp hok
  clear h hd
  go_enter Try.func10, Try.ntmps10
  have c1 := cell_at HA0.out 1 _ rfl
  go_wp2_with fail
  refine (HC _ HK0.out).out.mono ?_
  rintro e w1 ⟨rfl, hk, hw⟩
  have HB2 := Lib.hid (Joins.below_alloc1 w1 (.cells #[.int .i64 pf, .int .i64 pt, .string pd] 39))
  have HA1 := Lib.hid (kept_at (hw.cells HA0.out (by decide) (by decide)) HB2.out)
  have HK1 := Lib.hid (hk.next HB2.out)
  have HD1 := Lib.hid ((HD0.out.bkw hw).next HB2.out)
  have HX1 : Hid ((w1.alloc (.cells #[.int .i64 pf, .int .i64 pt, .string pd] 39)).heap[w1.heap.size]? = some (.cells #[.int .i64 pf, .int .i64 pt, .string pd] 39 (0, 0))) := Lib.hid (new_at rfl)
  have HS1 := Lib.hid (((SdW.ofBelow (B := B) HB0.out).trans (SdW.ofBk hw)).trans (SdW.ofBelow HB2.out))
  have d1 := cell_at HA1.out 1 _ rfl
  clear hk hw c1
  go_wp2_with fail
  refine (HD _ HD1.out).out.mono ?_
  rintro e w2 ⟨rfl, hd, hg⟩
  have HB3 := Lib.hid (Joins.below_alloc1 w2 (.cells #[.int .i64 pf, .int .i64 pt, .string pd] 39))
  have hx2 := HD1.out.alone hg HX1.out (by decide)
  have HK2 := Lib.hid ((HK1.out.dk HD1.out hg).next HB3.out)
  have HD2 := Lib.hid (hd.next HB3.out)
  have HS2 := Lib.hid ((HS1.out.trans (SdW.ofDk HD1.out hg)).trans (SdW.ofBelow HB3.out))
  have e0 := fun o => cell_at (old_at (o := o) hx2) 0 (.int .i64 pf) rfl
  have e1 := fun o => cell_at (old_at (o := o) hx2) 1 (.int .i64 pt) rfl
  have e2 := fun o => cell_at (old_at (o := o) hx2) 2 (.string pd) rfl
  clear hd hg hx2 d1
  go_wp2
  go_ret
  exact ⟨rfl, HK2.out, HD2.out, HS2.out⟩
end
theorem do_any {B b b' : Nat} {l : List Pk} (x : Ac) (ho : okA x) (ws : World) (hr : Rp ws x) (hB : ws.heap.size ≤ B) (w : World) (hws : Below B ws w) (hBw : B ≤ w.heap.size) (h : Ck B w b l) (hd : Dk B w b' l) : Calls Try.prog 10 #[.pointer (some ⟨b, 0, none⟩), .pointer (some ⟨b', 0, none⟩), .agg #[.int .i64 x.k, .int .i64 x.n, .int .i64 x.bit, .int .u32 (x.m : Int), .slice x.a x.len x.cap]] w fun e w' => e = .returned (.bool true) ∧ Ck B w' b (actL l x) ∧ Dk B w' b' (actL l x) ∧ SdW B w w' := by
  obtain ⟨k, n, bit, m, pa, pl, pc, ps⟩ := x
  unfold actL
  simp only
  by_cases h1 : k = 1
  · subst h1
    rw [if_pos rfl]
    exact do_add ho.2 ho.1 hr.hc hr.hn ws hr.ps hB w hws hBw h hd
  rw [if_neg h1]
  by_cases h2 : k = 2
  · subst h2
    rw [if_pos rfl]
    exact do_take w h hd
  rw [if_neg h2]
  by_cases h3 : k = 3
  · subst h3
    rw [if_pos rfl]
    exact do_twice w h hd
  rw [if_neg h3]
  by_cases h4 : k = 4
  · subst h4
    rw [if_pos rfl]
    exact do_spoil hr.b1 hr.b2 hr.bm w h hd
  rw [if_neg h4]
  exact do_else k h1 h2 h3 h4 w h hd
end Go.Proofs.Ytjnjpphbclepbaa
