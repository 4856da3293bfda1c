/-
  A set's text, as the program writes it.
-/
import Derived.Test.YtlfahnijnlapdaaDoorDgood
import Derived.Lib.ItoaNum
namespace Go.Proofs.YtlfahnijnlapdaaDoor
open Go.RowKit

theorem itoa_dig {k : Nat} (h : k < 64) : Lib.itoa (k : Int) = digN k := by
  unfold Lib.itoa
  rw [if_neg (by omega), show (k : Int).toNat = k from rfl, Lib.decDigits]
  unfold digN
  by_cases h1 : k < 10
  · rw [dif_pos h1, if_pos h1]
  · rw [dif_neg h1, if_neg h1, Lib.decDigits, dif_pos (by omega)]; rfl

theorem app_int {k : Nat} (hk : k < 64) (B n : Nat) (sv : Value) (t : List UInt8) (w W : World) (hown : w.ownsRow B 5 1 sv n (Lib.byteCells t)) (hB : B = W.heap.size) (hn : n ≤ 1000) (hG : Good W) (hb : Below W.heap.size W w) :
    Calls Tryd.prog 30 #[sv, .int .i64 (k : Nat), .int .i64 10] w fun e w' => ∃ v', e = .returned v' ∧ w'.ownsRow B 5 1 v' (n + (digN k).length) (Lib.byteCells (t ++ digN k)) ∧ Below B w w' ∧ Lib.OthersKept 5 none w w' := by
  subst hB
  have h := Tryd.strconv_AppendInt_10 W.heap.size n (k : Int) (by omega) (by omega) sv _ w hown hb.size (by omega) ((Lib.tabBelow_of_tabIs hG.pow).on hb)
  rw [itoa_dig hk, show Lib.byteCells t ++ Lib.byteCells (digN k) = Lib.byteCells (t ++ digN k) by simp [Lib.byteCells]] at h
  exact h

/-- The text of the first k. -/
def preT (s k : Nat) : List UInt8 := 123 :: joinN ((listN s).take k)

def ShowRel (W : World) (s : Nat) (lv b i : Value) (wr : World) : Prop :=
  ∃ (k g n c : Nat), k ≤ (listN s).length ∧ i = .int .i64 (k : Nat) ∧ b = .slice (some ⟨g, 0, none⟩) n c ∧ wr.ownsRow W.heap.size 5 1 b n (Lib.byteCells (preT s k)) ∧ wr.ownsRow W.heap.size 3 1 lv (listN s).length ((listN s).map nV) ∧ Below W.heap.size W wr

theorem pre_len (s k : Nat) : (preT s k).length ≤ 200 := by
  unfold preT
  have h1 := join_len ((listN s).take k)
  have h2 : ((listN s).take k).length ≤ 64 := by have := toN_len s 64; rw [List.length_take]; unfold listN; omega
  simp only [List.length_cons]
  omega

theorem pre_zero (s : Nat) : preT s 0 = [123] := rfl
theorem pre_one {s : Nat} (h : 0 < (listN s).length) : preT s 1 = preT s 0 ++ digN ((listN s)[0]) := by
  unfold preT
  rw [List.take_succ_eq_append_getElem h]
  rfl
theorem pre_more {s k : Nat} (h : k + 1 < (listN s).length) : preT s (k + 1 + 1) = (preT s (k + 1) ++ [44]) ++ digN ((listN s)[k + 1]) := by
  unfold preT
  have h1 : ((listN s).take (k + 1)).length = k + 1 := by rw [List.length_take]; omega
  have h2 : (listN s).take (k + 1) ≠ [] := by intro e; rw [e] at h1; simp at h1
  rw [List.take_succ_eq_append_getElem h, join_snoc h2]
  simp
theorem pre_all {s k : Nat} (h : ¬ k < (listN s).length) : preT s k ++ [125] = showN s := by
  unfold preT showN
  rw [List.take_of_length_le (by omega)]
  rfl
theorem list_lt {s k : Nat} (h : k < (listN s).length) : (listN s)[k] < 64 := toN_lt _ (List.getElem_mem h)

theorem show_end {W wr w2 : World} {s k n g c : Nat} {v2 : Value} {o : Obj} (e : preT s k ++ [125] = showN s) (hB : Below W.heap.size W wr) (hO : wr.ownsRow W.heap.size 5 1 (.slice (some ⟨g, 0, none⟩) n c) n (Lib.byteCells (preT s k)))
    (hown : w2.ownsRow W.heap.size 5 1 v2 (n + 1) (Lib.byteCells (preT s k) ++ [.int .u8 125])) (hgr : (wr.alloc o).grownBy w2 (Value.slice (some ⟨g, 0, none⟩) n c).ownBlock) :
    Below W.heap.size W w2 ∧ ∃ g2 n2 c2, v2 = .slice (some ⟨g2, 0, none⟩) n2 c2 ∧ (convert 60 9 v2).run Tryd.prog w2 = .ok (.string ⟨(showN s).toArray⟩) w2 := by
  obtain ⟨g2, c2, rfl, _, _⟩ := hown.form (by omega)
  rw [show Lib.byteCells (preT s k) ++ [.int .u8 125] = Lib.byteCells (showN s) by rw [← e]; simp [Lib.byteCells]] at hown
  exact ⟨(hB.alloc hB.size o).grown hgr (by have := hB.size; simp; omega) (fun b h => (hO.lt b h).1), g2, _, c2, rfl, conv_own hown (by unfold showN; simp)⟩

theorem show_step {W w w2 : World} {s k x n : Nat} {v2 lv : Value} {t : List UInt8} (hB : Below W.heap.size W w) (hL : w.ownsRow W.heap.size 3 1 lv (listN s).length ((listN s).map nV)) (e : preT s (k + 1) = t ++ digN x) (hk : k < (listN s).length)
    (hown : w2.ownsRow W.heap.size 5 1 v2 (n + (digN x).length) (Lib.byteCells (t ++ digN x))) (hb : Below W.heap.size w w2) (ho : Lib.OthersKept 5 none w w2) : ShowRel W s lv v2 (.int .i64 ((k + 1 : Nat) : Int)) w2 := by
  have h0 : 0 < (digN x).length := List.length_pos_iff.2 (digN_ne x)
  obtain ⟨g, c, rfl, _, _⟩ := hown.form (by omega)
  exact ⟨k + 1, g, _, c, hk, rfl, rfl, by rw [e]; exact hown, own_others hL ho (by decide), hB.trans hb⟩

theorem show_comma {W w w2 : World} {s k n g c : Nat} {v2 lv : Value} {o : Obj} (hB : Below W.heap.size W w) (hO : w.ownsRow W.heap.size 5 1 (.slice (some ⟨g, 0, none⟩) n c) n (Lib.byteCells (preT s k))) (hL : w.ownsRow W.heap.size 3 1 lv (listN s).length ((listN s).map nV))
    (hown : w2.ownsRow W.heap.size 5 1 v2 (n + 1) (Lib.byteCells (preT s k) ++ [.int .u8 44])) (hgr : (w.alloc o).grownBy w2 (Value.slice (some ⟨g, 0, none⟩) n c).ownBlock) :
    w2.ownsRow W.heap.size 5 1 v2 (n + 1) (Lib.byteCells (preT s k ++ [44])) ∧ Below W.heap.size W w2 ∧ w2.ownsRow W.heap.size 3 1 lv (listN s).length ((listN s).map nV) ∧ ∃ g1 c1, v2 = .slice (some ⟨g1, 0, none⟩) (n + 1) c1 := by
  obtain ⟨g2, c2, rfl, _, _⟩ := hown.form (by omega)
  refine ⟨?_, (hB.alloc hB.size o).grown hgr (by have := hB.size; simp; omega) (fun b h => (hO.lt b h).1), ?_, g2, c2, rfl⟩
  · rw [show Lib.byteCells (preT s k ++ [44]) = Lib.byteCells (preT s k) ++ [.int .u8 44] by simp [Lib.byteCells]]
    exact hown
  · exact (World.ownsRow.alloc hL o).kept hgr (own_apart hL hO (by decide))

set_option maxRecDepth 20000 in
set_option maxHeartbeats 2000000 in
theorem show_any (s : Nat) (W : World) (hs : s < 18446744073709551616) (hG : Good W) : Calls Tryd.prog 23 #[.int .u64 (s : Nat)] W fun e w' => e = .returned (.string ⟨(showN s).toArray⟩) ∧ Below W.heap.size W w' := by
  obtain ⟨i0, hi0, hz0, hz1, hz2⟩ := info_parts Tryd.infoB
  have G := Lib.hid hG
  clear hG
  have hb0 : Below W.heap.size W (W.alloc (.cells #[.int .u8 123] 5)) := below_alloc (Below.refl _ _) _
  have ho0 : (W.alloc (.cells #[.int .u8 123] 5)).ownsRow W.heap.size 5 1 (.slice (some ⟨W.heap.size, 0, none⟩) 1 1) 1 (Lib.byteCells (preT s 0)) := World.ownsRow_lit W #[.int .u8 123] 1 (Nat.le_refl _) (by unfold maxLen; omega) rfl
  have HB0 := Lib.hid hb0
  have HO0 := Lib.hid ho0
  clear hb0 ho0
  have hlen := cntN_le s
  unfold cntN at hlen
  go_enter Tryd.func23, Tryd.ntmps23
  go_wp2_with fail
  generalize W.alloc (.cells #[.int .u8 123] 5) = W1 at *
  refine (list_own s W1 hs).mono ?_
  rintro e w1 ⟨a, c, rfl, hO, hB⟩
  have HB1 := Lib.hid (HB0.out.trans (hB.mono HB0.out.size))
  have HO1 := Lib.hid (own_below HO0.out hB)
  have HL1 := Lib.hid (own_mono hO HB0.out.size)
  clear hO hB HB0 HO0
  go_wp2_with fail
  go_loopw [3, 10] (fun b i wr => ShowRel W s (.slice a (listN s).length c) b i wr) (fun _ i _ => (listN s).length - (intOf i).toNat)
  case atStart => exact ⟨0, _, _, _, Nat.zero_le _, rfl, rfl, HO1.out, HL1.out, HB1.out⟩
  case round =>
    obtain ⟨k, g, n, cb, hk, rfl, rfl, hO, hL, hB⟩ := hrel
    have hn : n ≤ 200 := by have h1 := hO.1; rw [Lib.byteCells_length] at h1; have hpl := pre_len s k; omega
    have HO := Lib.hid hO
    have HL := Lib.hid hL
    have HB := Lib.hid hB
    clear hO hL hB
    by_cases hlt : k < (listN s).length
    · obtain ⟨gl, cl, e, _, _⟩ := HL.out.form (by omega)
      cases e
      have k1 : wr.cell? ⟨gl, k, none⟩ = some (.int .i64 ((listN s)[k] : Nat)) := by
        rw [HL.out.cellAt k (by omega), List.getElem?_map, List.getElem?_eq_getElem hlt]; rfl
      have hx := list_lt hlt
      cases k with
      | zero =>
        have P1 := Lib.hid (pre_one hlt)
        generalize (listN s)[0] = x at *
        go_wp2_with (go_at_call 30; refine (app_int hx W.heap.size n _ (preT s 0) wr W HO.out rfl (by omega) G.out HB.out).mono ?_
                     rintro e w2 ⟨v2, rfl, hown2, hb2, ho2⟩
                     have R := Lib.hid (show_step HB.out HL.out P1.out hlt hown2 hb2 ho2)
                     clear hown2 hb2 ho2)
        go_roundw
        case rel => exact R.out
        case measure => simp only [intOf]; omega
      | succ j =>
        have P1 := Lib.hid (pre_more hlt)
        generalize (listN s)[j + 1] = x at *
        go_wp2_with (first
          | (at_builtin; refine wpList_append_own _ rfl (.tmp 17) (.tmp 18) 60 rfl W.heap.size 5 i0 (.int .u8 0) 1 1 Tryd.underlying60 hi0 hz0 hz1 hz2 rfl (by decide) _ _ _ rfl (World.ownsRow.alloc HO.out _) ⟨wr.heap.size, 0, none⟩ 1 1 [.int .u8 44] rfl rfl (World.news_of_block (heap_alloc_new _ _)) (by simp [Value.oneCell']) (by unfold maxLen; omega) (by omega) (by have := HB.out.size; simp; omega) ?_
             intro v1 w2 hown1 hgr1 _
             have C := Lib.hid (show_comma HB.out HO.out HL.out hown1 hgr1)
             clear hown1 hgr1
             obtain ⟨g1, c1, rfl⟩ := C.out.2.2.2)
          | (go_at_call 30; refine (app_int hx W.heap.size (n + 1) _ _ w2 W C.out.1 rfl (by omega) G.out C.out.2.1).mono ?_
             rintro e w3 ⟨v2, rfl, hown2, hb2, ho2⟩
             have R := Lib.hid (show_step C.out.2.1 C.out.2.2.1 P1.out hlt hown2 hb2 ho2)
             clear hown2 hb2 ho2))
        go_roundw
        case rel => exact R.out
        case measure => simp only [intOf]; omega
    · have E := Lib.hid (pre_all hlt)
      have NB : Hid (0 ≤ 1) := Lib.hid (by decide)
      go_wp2_with (at_builtin; refine wpList_append_own _ rfl (.tmp 24) (.tmp 25) 60 rfl W.heap.size 5 i0 (.int .u8 0) 1 1 Tryd.underlying60 hi0 hz0 hz1 hz2 rfl (by decide) _ _ _ rfl (World.ownsRow.alloc HO.out _) ⟨wr.heap.size, 0, none⟩ 1 1 [.int .u8 125] rfl rfl (World.news_of_block (heap_alloc_new _ _)) (by simp [Value.oneCell']) (by unfold maxLen; omega) (by omega) (by have := HB.out.size; simp; omega) ?_
                   intro v2 w2 hown2 hgr2 _
                   have R := Lib.hid (show_end E.out HB.out HO.out hown2 hgr2)
                   clear hown2 hgr2
                   obtain ⟨hB2, g2, n2, c2, rfl, hV⟩ := R.out)
      go_ret
      exact ⟨rfl, hB2⟩

end Go.Proofs.YtlfahnijnlapdaaDoor
