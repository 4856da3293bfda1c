/-
  The document's own texts of sets.
-/
import Derived.Test.YtlfahnijnlapdaaDoorDshow
import Derived.Deep.RegionWith
namespace Go.Proofs.YtlfahnijnlapdaaDoor
open Go.RowKit

theorem cat_str (a b : List UInt8) : (⟨a.toArray⟩ ++ ⟨b.toArray⟩ : ByteArray) = ⟨(a ++ b).toArray⟩ := by
  simp [ByteArray.mk_append_mk]
theorem be_drew {W w2 : World} (h : Below W.drew.heap.size W.drew w2) : Below W.heap.size W w2 := ⟨h.os, h.tape, h.output, h.size, h.block⟩
theorem be_two {W w2 : World} {o : Obj} (h : Below (W.alloc o).drew.heap.size (W.alloc o).drew w2) : Below W.heap.size W w2 :=
  (below_alloc (Below.refl _ _) o).trans ((⟨h.os, h.tape, h.output, h.size, h.block⟩ : Below (W.alloc o).heap.size (W.alloc o) w2).mono (by simp))
theorem conv_one (w : World) (c : UInt8) : (convert 60 9 (.slice (some ⟨w.heap.size, 0, none⟩) 1 1)).run Tryd.prog (w.alloc (.cells #[.int .u8 (c.toNat : Int)] 5)) = .ok (.string ⟨#[c]⟩) (w.alloc (.cells #[.int .u8 (c.toNat : Int)] 5)) :=
  conv_own (B := w.heap.size) (t := [c]) (n' := 1) (World.ownsRow_lit w #[.int .u8 (c.toNat : Int)] 1 (Nat.le_refl _) (by unfold maxLen; omega) rfl) (by simp)

theorem conv_on {w w2 : World} (c : UInt8) (hb : Below (w.alloc (.cells #[.int .u8 (c.toNat : Int)] 5)).heap.size (w.alloc (.cells #[.int .u8 (c.toNat : Int)] 5)) w2) :
    (convert 60 9 (.slice (some ⟨w.heap.size, 0, none⟩) 1 1)).run Tryd.prog w2 = .ok (.string ⟨#[c]⟩) w2 :=
  conv_own (B := w.heap.size) (t := [c]) (n' := 1) (own_below (World.ownsRow_lit w #[.int .u8 (c.toNat : Int)] 1 (Nat.le_refl _) (by unfold maxLen; omega) rfl) hb) (by simp)

def chr (d : Nat) : UInt8 := UInt8.ofNat (48 + d)
theorem chr_nat {d : Nat} (h : d < 10) : (chr d).toNat = 48 + d := by
  unfold chr
  rw [UInt8.toNat_ofNat']
  omega
theorem chr_int {d : Nat} (h : d < 10) : (((chr d).toNat : Nat) : Int) = 48 + (d : Int) := by rw [chr_nat h]; omega

theorem conv_dig (w : World) {d : Nat} (h : d < 10) : (convert 60 9 (.slice (some ⟨w.heap.size, 0, none⟩) 1 1)).run Tryd.prog (w.alloc (.cells #[.int .u8 (48 + (d : Int))] 5)) = .ok (.string ⟨#[chr d]⟩) (w.alloc (.cells #[.int .u8 (48 + (d : Int))] 5)) := by
  have e := conv_one w (chr d)
  rwa [chr_int h] at e

theorem conv_later {w w2 : World} {d : Nat} (h : d < 10) (hb : Below (w.alloc (.cells #[.int .u8 (48 + (d : Int))] 5)).heap.size (w.alloc (.cells #[.int .u8 (48 + (d : Int))] 5)) w2) :
    (convert 60 9 (.slice (some ⟨w.heap.size, 0, none⟩) 1 1)).run Tryd.prog w2 = .ok (.string ⟨#[chr d]⟩) w2 := by
  rw [← chr_int h] at hb
  exact conv_on (chr d) hb

theorem conv_drew {w w2 : World} {d : Nat} (h : d < 10) (hb : Below (w.alloc (.cells #[.int .u8 (48 + (d : Int))] 5)).drew.heap.size (w.alloc (.cells #[.int .u8 (48 + (d : Int))] 5)).drew w2) :
    (convert 60 9 (.slice (some ⟨w.heap.size, 0, none⟩) 1 1)).run Tryd.prog w2 = .ok (.string ⟨#[chr d]⟩) w2 :=
  conv_later h ⟨hb.os, hb.tape, hb.output, hb.size, hb.block⟩

set_option maxRecDepth 20000 in
set_option maxHeartbeats 2000000 in
theorem dig_small (d : Nat) (W : World) (h : d < 10) : Calls Tryd.prog 31 #[.int .u64 (d : Nat)] W fun e w' => e = .returned (.string ⟨#[chr d]⟩) ∧ Below W.heap.size W w' := by
  have C := conv_dig W h
  go_enter Tryd.func31, Tryd.ntmps31
  go_wp2_with fail
  go_ret
  exact ⟨rfl, below_alloc (Below.refl _ _) _⟩

set_option maxRecDepth 20000 in
set_option maxHeartbeats 2000000 in
theorem dig_any (k : Nat) (W : World) (h : k < 64) : Calls Tryd.prog 31 #[.int .u64 (k : Nat)] W fun e w' => e = .returned (.string ⟨(digN k).toArray⟩) ∧ Below W.heap.size W w' := by
  by_cases h1 : k < 10
  · have := dig_small k W h1
    unfold digN
    rw [if_pos h1]
    exact this
  · have e10 : (k : Int) / 10 = ((k / 10 : Nat) : Int) := by omega
    have m10 : (k : Int).tmod 10 = ((k % 10 : Nat) : Int) := by rw [Int.tmod_eq_emod_of_nonneg (by omega)]; omega
    have hq : k / 10 < 10 := by omega
    have hr : k % 10 < 10 := by omega
    have V := Lib.hid (show digN k = [chr (k / 10), chr (k % 10)] by unfold digN; rw [if_neg h1]; rfl)
    generalize k / 10 = a at *
    generalize k % 10 = b at *
    have C : ∀ w : World, (convert 60 9 (.slice (some ⟨w.heap.size, 0, none⟩) 1 1)).run Tryd.prog (w.alloc (.cells #[.int .u8 (48 + (b : Int))] 5)) = .ok (.string ⟨#[chr b]⟩) (w.alloc (.cells #[.int .u8 (48 + (b : Int))] 5)) := fun w => conv_dig w hr
    have C3 : (convert 60 9 (.slice (some ⟨W.heap.size, 0, none⟩) 1 1)).run Tryd.prog (W.alloc (.cells #[.int .u8 (48 + (b : Int))] 5)).drew = .ok (.string ⟨#[chr b]⟩) (W.alloc (.cells #[.int .u8 (48 + (b : Int))] 5)).drew := conv_drew hr (Below.refl _ _)
    have h10 : ¬ (k : Int) < 10 := by omega
    have f1 : IntKind.u64.wrap (a : Int) = (a : Int) := by rw [IntKind.wrap_u64]; omega
    have f2 : IntKind.u64.wrap (48 + (b : Int)) = 48 + (b : Int) := by rw [IntKind.wrap_u64]; omega
    have f3 : IntKind.u8.wrap (48 + (b : Int)) = 48 + (b : Int) := by rw [IntKind.wrap_u8']; omega
    clear h1
    go_enter Tryd.func31, Tryd.ntmps31
    go_wp2_with fail
    go_region_with (go_at_call 31; refine (dig_small a _ hq).mono ?_; rintro e w2 ⟨rfl, hb2⟩; have HB2 := Lib.hid hb2; first | (have C2 : (convert 60 9 (.slice (some ⟨W.heap.size, 0, none⟩) 1 1)).run Tryd.prog w2 = .ok (.string ⟨#[chr b]⟩) w2 := conv_drew hr hb2) | skip)
    all_goals (try go_simp)
    all_goals go_wp2_with fail
    all_goals go_ret
    all_goals refine ⟨by rw [V.out]; exact congrArg (fun s => Ending.returned (.string s)) (cat_str [chr a] [chr b]), ?_⟩
    all_goals first | exact be_two HB2.out | exact below_alloc (be_drew HB2.out) _ | trace_state

def RShowRel (W : World) (s : Nat) (lv t i : Value) (wr : World) : Prop :=
  ∃ (k : Nat), k ≤ (listN s).length ∧ i = .int .i64 (k : Nat) ∧ t = .string ⟨(preT s k).toArray⟩ ∧ wr.ownsRow W.heap.size 3 1 lv (listN s).length ((listN s).map nV) ∧ Below W.heap.size W wr

theorem rshow_step {W wr w2 : World} {s k x : Nat} {lv : Value} {S : ByteArray} {t : List UInt8} (hB : Below W.heap.size W wr) (hL : wr.ownsRow W.heap.size 3 1 lv (listN s).length ((listN s).map nV)) (e : preT s (k + 1) = t ++ digN x) (hk : k < (listN s).length) (hS : S = ⟨t.toArray⟩)
    (hb : Below wr.heap.size wr w2) : RShowRel W s lv (.string (S ++ ⟨(digN x).toArray⟩)) (.int .i64 ((k + 1 : Nat) : Int)) w2 := by
  refine ⟨k + 1, hk, rfl, ?_, own_below hL hb, hB.trans (hb.mono hB.size)⟩
  rw [e, hS, cat_str]

set_option maxRecDepth 20000 in
set_option maxHeartbeats 2000000 in
theorem rshow_any (s : Nat) (W : World) (hs : s < 18446744073709551616) : Calls Tryd.prog 24 #[.int .u64 (s : Nat)] W fun e w' => e = .returned (.string ⟨(showN s).toArray⟩) ∧ Below W.heap.size W w' := by
  have hlen := cntN_le s
  unfold cntN at hlen
  go_enter Tryd.func24, Tryd.ntmps24
  go_wp2_with fail
  refine (rlist_own s W hs).mono ?_
  rintro e w1 ⟨a, c, rfl, hO, hB⟩
  have HB1 := Lib.hid hB
  have HL1 := Lib.hid hO
  clear hO hB
  go_wp2_with fail
  go_loopw [3, 5] (fun t i wr => RShowRel W s (.slice a (listN s).length c) t i wr) (fun _ i _ => (listN s).length - (intOf i).toNat)
  case atStart => exact ⟨0, Nat.zero_le _, rfl, rfl, HL1.out, HB1.out⟩
  case round =>
    obtain ⟨k, hk, rfl, rfl, hL, hB⟩ := hrel
    have HL := Lib.hid hL
    have HB := Lib.hid hB
    clear hL hB
    by_cases hlt : k < (listN s).length
    · obtain ⟨gl, cl, e, _, _⟩ := HL.out.form (by omega)
      cases e
      have k1 : wr.cell? ⟨gl, k, none⟩ = some (.int .i64 ((listN s)[k] : Nat)) := by
        rw [HL.out.cellAt k (by omega), List.getElem?_map, List.getElem?_eq_getElem hlt]; rfl
      have hx := list_lt hlt
      cases k with
      | zero =>
        have P1 := Lib.hid (pre_one hlt)
        generalize (listN s)[0] = x at *
        generalize hS : (⟨(preT s 0).toArray⟩ : ByteArray) = S at *
        have HS := Lib.hid hS.symm
        have hsz : S.size ≤ 200 := by rw [← hS]; exact pre_len s 0
        have hdl := digN_len x
        clear hS
        have f1 : IntKind.u64.wrap (x : Int) = (x : Int) := by rw [IntKind.wrap_u64]; omega
        go_wp2_with (go_at_call 31; refine (dig_any x _ hx).mono ?_
                     rintro e w2 ⟨rfl, hb2⟩
                     have R := Lib.hid (rshow_step HB.out HL.out P1.out hlt HS.out hb2)
                     clear hb2)
        go_roundw
        case rel => exact R.out
        case measure => simp only [intOf]; omega
      | succ j =>
        have P1 := Lib.hid (pre_more hlt)
        generalize (listN s)[j + 1] = x at *
        generalize hS : (⟨(preT s (j + 1)).toArray⟩ : ByteArray) = S at *
        have HS := Lib.hid (show S ++ ⟨#[44]⟩ = ⟨(preT s (j + 1) ++ [44]).toArray⟩ by rw [← hS]; exact cat_str _ [44])
        have hsz : S.size ≤ 200 := by rw [← hS]; exact pre_len s (j + 1)
        have hdl := digN_len x
        clear hS
        have f1 : IntKind.u64.wrap (x : Int) = (x : Int) := by rw [IntKind.wrap_u64]; omega
        go_wp2_with (go_at_call 31; refine (dig_any x _ hx).mono ?_
                     rintro e w2 ⟨rfl, hb2⟩
                     have R := Lib.hid (rshow_step HB.out HL.out P1.out hlt HS.out hb2)
                     clear hb2)
        go_roundw
        case rel => exact R.out
        case measure => simp only [intOf]; omega
    · have E := Lib.hid (show (⟨(preT s k).toArray⟩ ++ ⟨#[125]⟩ : ByteArray) = ⟨(showN s).toArray⟩ by rw [← pre_all hlt]; exact cat_str _ [125])
      have hsz : (⟨(preT s k).toArray⟩ : ByteArray).size ≤ 200 := pre_len s k
      generalize (⟨(preT s k).toArray⟩ : ByteArray) = S at *
      go_wp2_with fail
      go_ret
      exact ⟨by rw [← E.out]; rfl, HB.out⟩

end Go.Proofs.YtlfahnijnlapdaaDoor
