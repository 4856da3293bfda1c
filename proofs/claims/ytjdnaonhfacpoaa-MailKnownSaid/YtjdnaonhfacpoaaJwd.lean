/-
  A word; Size; what all the laws begin with.
-/
import Derived.Test.YtjdnaonhfacpoaaJaw
namespace Go.Proofs.Ytjdnaonhfacpoaa
open Go.RowKit

theorem mget_of {W : World} {bs : List Nat} {ao : Option Addr} {cap len : Nat} {x : Msg} {ok : Bool} (hs : SlAt bV 256 W ao cap bs) (hlen : bs.length = len) (hl : len ≤ 1000000) (hg : gotM bs = x) (ho : okM bs = ok) :
    Calls Try.prog 14 #[.slice ao len cap] W fun e w' => ∃ ba bc sa sc, e = .returned (.tuple #[.agg (msgA x ba bc sa sc), .int .i64 (if ok then 0 else 2)]) ∧ MsgS w' x ba bc sa sc ∧ Below W.heap.size W w' := by
  subst hlen hg ho
  exact mget_any W bs ao cap hs hl
set_option maxHeartbeats 2000000 in
theorem msize_any (m : Msg) (ba : Option Addr) (bc : Nat) (sa : Option Addr) (sc : Nat) (W : World) (hs : MsgS W m ba bc sa sc) (hk : MsgOk m) :
    Calls Try.prog 12 #[.agg (msgA m ba bc sa sc)] W fun e w' => e = .returned (.int .i64 ((bytesM m).length : Nat)) ∧ Below W.heap.size W w' := by
  obtain ⟨bs, hb⟩ : ∃ bs, bytesM m = bs := ⟨_, rfl⟩
  rw [hb]
  have X1 := Mun.new hs 29
  have HB := Lib.hid hb
  have O := Lib.hid hk
  clear hs hk hb
  go_enter Try.func12, Try.ntmps12
  go_wp2_with fail
  generalize W.alloc (.cells (msgA m ba bc sa sc) 29) = w0 at X1 ⊢
  obtain ⟨k0, k1, k2, k3, k4, k5, k6, k7, k8, k9⟩ := X1.out.bx
  go_wp2_with fail
  refine (mput_is X1.out.sl O.out HB.out).mono ?_
  rintro e w2 ⟨a, cap, rfl, hsl, hb2⟩
  have X2 := Mun.of hb2 X1
  clear hb2 hsl
  go_wp2_with fail
  go_ret
  exact ⟨rfl, X2.out.be⟩
theorem msize_is {m : Msg} {ba : Option Addr} {bc : Nat} {sa : Option Addr} {sc : Nat} {W : World} {z : Int} (hs : MsgS W m ba bc sa sc) (hk : MsgOk m) (h : ((bytesM m).length : Int) = z) :
    Calls Try.prog 12 #[.agg (msgA m ba bc sa sc)] W fun e w' => e = .returned (.int .i64 z) ∧ Below W.heap.size W w' := by
  subst h; exact msize_any m ba bc sa sc W hs hk

def wordM : Msg := ⟨0, 1, 2, 0, 0, 0, 0, 0, [97], []⟩
theorem word_ok : MsgOk wordM := ⟨by decide, by decide, by decide, by decide⟩
theorem word_good : goodM wordM = true := by decide +kernel
theorem word_bytes : bytesM wordM = [0, 1, 2, 0, 1, 97, 0] := by
  unfold bytesM
  rw [word_good, if_pos rfl]
  simp [putL, wordM, lebL_lo, tagged]
theorem word_got : gotM [0, 1, 2, 0, 1, 97, 0] = wordM ∧ okM [0, 1, 2, 0, 1, 97, 0] = true := by
  have h := got_put word_ok (of_decide_eq_true word_good)
  have e : putL wordM = [0, 1, 2, 0, 1, 97, 0] := by
    have := word_bytes
    unfold bytesM at this
    rwa [word_good, if_pos rfl] at this
  rw [e] at h
  exact ⟨h.2, h.1⟩

abbrev wordA (a : Option Addr) : Array Value := #[.int .i64 0, .int .u64 1, .int .u64 2, .int .i64 0, .int .i64 0, .float .f64 0, .int .i64 0, .int .u64 0, .slice a 1 1, .slice none 0 0]

set_option maxRecDepth 20000 in
set_option maxHeartbeats 4000000 in
theorem word_any (W : World) : Calls Try.prog 8 #[] W fun e w' => ∃ a, e = .returned (.agg (wordA a)) ∧ MsgS w' wordM a 1 none 0 ∧ Below W.heap.size W w' ∧ ∀ ad, a = some ad → W.heap.size ≤ ad.block := by
  have hst := store_float
  have hcv := Lib.run_convert_bytes_const (P := Try.prog) (W.alloc (.cells zA 29)) 27 5 #[.int .u8 97] 1 1 Try.underlying27 Try.underlying5
  rw [show (W.alloc (.cells zA 29)).heap.size = W.heap.size + 1 by simp] at hcv
  have B0 := Lib.hid (below_alloc (below_alloc (Below.refl _ W) (.cells (wordA (some ⟨W.heap.size + 1, 0, none⟩)) 29)) (.cells #[.int .u8 97] 5 (1, 2)))
  have X0 := (msgB_new W wordM (some ⟨W.heap.size + 1, 0, none⟩) 1 none 0 29).below (below_alloc (Below.refl _ _) (.cells #[.int .u8 97] 5 (1, 2)))
  have L0 := sl_lit bV 256 (W.alloc (.cells (wordA (some ⟨W.heap.size + 1, 0, none⟩)) 29)) [97] #[.int .u8 97] 5 (1, 2) 1 rfl rfl (by simp) (by unfold maxLen; omega)
  rw [show (W.alloc (.cells (wordA (some ⟨W.heap.size + 1, 0, none⟩)) 29)).heap.size = W.heap.size + 1 by simp] at L0
  have LL := Lib.hid L0
  have XX := Lib.hid X0
  clear L0 X0
  go_enter Try.func8, Try.ntmps8
  go_wp2_with fail
  have X0 := XX.out
  have r0 : ((W.alloc (.cells (wordA (some ⟨W.heap.size + 1, 0, none⟩)) 29)).alloc (.cells #[.int .u8 97] 5 (1, 2))).cell? ⟨W.heap.size, 0, none⟩ = some (.int .i64 0) := X0.c0
  have r1 : ((W.alloc (.cells (wordA (some ⟨W.heap.size + 1, 0, none⟩)) 29)).alloc (.cells #[.int .u8 97] 5 (1, 2))).cell? ⟨W.heap.size, 1, none⟩ = some (.int .u64 1) := X0.c1
  have r2 : ((W.alloc (.cells (wordA (some ⟨W.heap.size + 1, 0, none⟩)) 29)).alloc (.cells #[.int .u8 97] 5 (1, 2))).cell? ⟨W.heap.size, 2, none⟩ = some (.int .u64 2) := X0.c2
  have r3 : ((W.alloc (.cells (wordA (some ⟨W.heap.size + 1, 0, none⟩)) 29)).alloc (.cells #[.int .u8 97] 5 (1, 2))).cell? ⟨W.heap.size, 3, none⟩ = some (.int .i64 0) := X0.c3
  have r4 : ((W.alloc (.cells (wordA (some ⟨W.heap.size + 1, 0, none⟩)) 29)).alloc (.cells #[.int .u8 97] 5 (1, 2))).cell? ⟨W.heap.size, 4, none⟩ = some (.int .i64 0) := X0.c4
  have r5 : ((W.alloc (.cells (wordA (some ⟨W.heap.size + 1, 0, none⟩)) 29)).alloc (.cells #[.int .u8 97] 5 (1, 2))).cell? ⟨W.heap.size, 5, none⟩ = some (.float .f64 0) := X0.c5
  have r6 : ((W.alloc (.cells (wordA (some ⟨W.heap.size + 1, 0, none⟩)) 29)).alloc (.cells #[.int .u8 97] 5 (1, 2))).cell? ⟨W.heap.size, 6, none⟩ = some (.int .i64 0) := X0.c6
  have r7 : ((W.alloc (.cells (wordA (some ⟨W.heap.size + 1, 0, none⟩)) 29)).alloc (.cells #[.int .u8 97] 5 (1, 2))).cell? ⟨W.heap.size, 7, none⟩ = some (.int .u64 0) := X0.c7
  have r8 : ((W.alloc (.cells (wordA (some ⟨W.heap.size + 1, 0, none⟩)) 29)).alloc (.cells #[.int .u8 97] 5 (1, 2))).cell? ⟨W.heap.size, 8, none⟩ = some (.slice (some ⟨W.heap.size + 1, 0, none⟩) 1 1) := X0.c8
  have r9 : ((W.alloc (.cells (wordA (some ⟨W.heap.size + 1, 0, none⟩)) 29)).alloc (.cells #[.int .u8 97] 5 (1, 2))).cell? ⟨W.heap.size, 9, none⟩ = some (.slice none 0 0) := X0.c9
  clear X0 XX
  generalize (W.alloc (.cells (wordA (some ⟨W.heap.size + 1, 0, none⟩)) 29)).alloc (.cells #[.int .u8 97] 5 (1, 2)) = wf at r0 r1 r2 r3 r4 r5 r6 r7 r8 r9 B0 LL ⊢
  refine bodyPost_ret (v := .agg (wordA (some ⟨W.heap.size + 1, 0, none⟩))) (by simp [results, Try.results8, go_sem, r0, r1, r2, r3, r4, r5, r6, r7, r8, r9]) rfl ?_
  refine ⟨_, rfl, ⟨LL.out, SlAt.none _ _ _⟩, B0.out, fun ad e => by cases e; exact Nat.le_succ _⟩

set_option maxRecDepth 20000 in
set_option maxHeartbeats 16000000 in
theorem awake_any (W : World) : Calls Try.prog 7 #[] W (Ok W) := by
  have hst := store_float
  go_enter Try.func7, Try.ntmps7
  go_wp2_with fail
  refine (word_any W).mono ?_
  rintro e w1 ⟨a1, rfl, hs1, hb1, _⟩
  have S1 := Lib.hid hs1
  have B1 := Lib.hid hb1
  clear hs1 hb1
  go_wp2_with fail
  refine (mput_is (m := wordM) S1.out word_ok word_bytes).mono ?_
  rintro e w2 ⟨a2, c2, rfl, hsl, hb⟩
  have L2 := Lib.hid hsl
  have B2 := Lib.hid (B1.out.trans (hb.mono B1.out.size))
  clear hsl hb B1 S1
  go_wp2_with fail
  refine (mget_of L2.out rfl (by simp) word_got.1 word_got.2).mono ?_
  rintro e w3 ⟨ba, bc, sa, sc, rfl, hs3, hb⟩
  have S3 := Lib.hid hs3
  have B3 := Lib.hid (B2.out.trans (hb.mono B2.out.size))
  clear hs3 hb B2 L2
  go_wp2_with fail
  have X4 := Lib.hid (show Mun W W.heap.size w3.heap.size wordM ba bc sa sc (w3.alloc (.cells (msgA wordM ba bc sa sc) 29)) from
    ⟨B3.out.alloc B3.out.size _, (B3.out.alloc B3.out.size (.cells (msgA wordM ba bc sa sc) 29)).size, msgB_new w3 wordM ba bc sa sc _, S3.out.below (below_alloc (Below.refl _ _) _)⟩)
  clear B3 S3
  obtain ⟨k0, k1, k2, k3, k4, k5, k6, k7, k8, k9⟩ := X4.out.bx
  generalize w3.alloc (.cells (msgA wordM ba bc sa sc) 29) = w4 at X4 k0 k1 k2 k3 k4 k5 k6 k7 k8 k9 ⊢
  generalize w3.heap.size = D at X4 k0 k1 k2 k3 k4 k5 k6 k7 k8 k9 ⊢
  refine (own_any wordM ba bc sa sc w4).mono ?_
  rintro e w5 ⟨rfl, hb⟩
  have X5 := Mun.of hb X4
  clear hb X4 k0 k1 k2 k3 k4 k5 k6 k7 k8 k9
  go_wp2_with fail
  refine (word_any _).mono ?_
  rintro e w6 ⟨a6, rfl, hs6, hb, _⟩
  have X6 := Mun.of hb X5
  have S6 := Lib.hid hs6
  clear hb X5 hs6
  go_wp2_with fail
  refine (own_any wordM a6 1 none 0 w6).mono ?_
  rintro e w7 ⟨rfl, hb⟩
  have X7 := Mun.of hb X6
  have S7 := Lib.hid (S6.out.below hb)
  clear hb X6 S6
  go_wp2_with fail
  refine (alike_any wordM 0 0 ba bc sa sc a6 1 none 0 w7 X7.out.sl S7.out (by decide) (by decide) (by simp [sameN])).mono ?_
  rintro e w8 ⟨rfl, hb⟩
  have B8 := Lib.hid (X7.out.be.trans (hb.mono X7.out.le))
  clear hb X7 S7
  go_wp2_with fail
  refine (word_any _).mono ?_
  rintro e w9 ⟨a9, rfl, hs9, hb, _⟩
  have B9 := Lib.hid (B8.out.trans (hb.mono B8.out.size))
  have S9 := Lib.hid hs9
  clear hb B8 hs9
  go_wp2_with fail
  refine (msize_is (m := wordM) (z := 7) S9.out word_ok (by rw [word_bytes]; rfl)).mono ?_
  rintro e w10 ⟨rfl, hb⟩
  have B10 := Lib.hid (B9.out.trans (hb.mono B9.out.size))
  clear hb B9 S9
  go_wp2_with fail
  refine (word_any _).mono ?_
  rintro e w11 ⟨a11, rfl, hs11, hb, _⟩
  have B11 := Lib.hid (B10.out.trans (hb.mono B10.out.size))
  have S11 := Lib.hid hs11
  clear hb B10 hs11
  go_wp2_with fail
  refine (good_is (m := wordM) S11.out word_ok word_good).mono ?_
  rintro e w12 ⟨rfl, hb⟩
  have B12 := Lib.hid (B11.out.trans (hb.mono B11.out.size))
  clear hb B11 S11
  go_wp2_with fail
  go_ret
  exact ⟨rfl, B12.out⟩

end Go.Proofs.Ytjdnaonhfacpoaa
