/-
  DockOrder.
-/
import Derived.Test.YthipdinpbihhmaaNall
namespace Go.Proofs.Ythipdinpbihhmaa
open Go.RowKit

/-- It is a piece of the row, by its number. -/
def Piece (l : List ByteArray) (x : Nat × ByteArray) : Prop := 1 ≤ x.1 ∧ l[x.1 - 1]? = some x.2

/-- What goes on is the row from there on. -/
theorem go_piece (l : List ByteArray) : ∀ (n : Nat) (E : List (Nat × ByteArray)), (∀ x ∈ E, Piece l x) → 1 ≤ n → n - 1 ≤ l.length →
    (goN n E).1 = (l.drop (n - 1)).take (goN n E).1.length ∧ n - 1 + (goN n E).1.length ≤ l.length ∧ ∀ x ∈ (goN n E).2, Piece l x
  | n, [], _, _, h2 => ⟨by simp [goN], by simpa [goN] using h2, fun x hx => by simp [goN] at hx⟩
  | n, x :: t, h, h1, h2 => by
    rw [goN]
    split
    · rename_i e
      obtain ⟨-, hp⟩ := h x (List.mem_cons_self ..)
      rw [e] at hp
      have hlt : n - 1 < l.length := (List.getElem?_eq_some_iff.1 hp).1
      obtain ⟨r1, r2, r3⟩ := go_piece l (n + 1) t (fun y hy => h y (List.mem_cons_of_mem _ hy)) (by omega) (by omega)
      dsimp only
      rw [List.length_cons]
      refine ⟨?_, by omega, r3⟩
      have e2 : l.drop (n - 1) = x.2 :: l.drop (n + 1 - 1) := by
        rw [List.drop_eq_getElem_cons hlt, show n - 1 + 1 = n + 1 - 1 by omega]
        congr 1
        rw [List.getElem?_eq_getElem hlt] at hp
        exact Option.some.inj hp
      rw [e2, List.take_succ_cons, ← r1]
    · dsimp only
      exact ⟨by simp, by simpa using h2, h⟩

/-- The row so far: so many have gone on; what is held are pieces of it. -/
structure Ord (l : List ByteArray) (n : Nat) (S : Dk) : Prop where
  next : S.next = n + 1
  le : n ≤ l.length
  held : ∀ x ∈ S.held, Piece l x
theorem Ord.came {l : List ByteArray} {n i : Nat} {S : Dk} {s : ByteArray} (h : Ord l n S) (hi : l[i]? = some s) : Ord l (n + (S.gave (i + 1) s).length) (S.came (i + 1) s) ∧ S.gave (i + 1) s = (l.drop n).take (S.gave (i + 1) s).length := by
  unfold Dk.came Dk.gave
  cases S.may (i + 1)
  · exact ⟨⟨h.next, h.le, h.held⟩, by simp⟩
  · have hp : ∀ x ∈ ins (i + 1) s S.held, Piece l x := fun x hx => by
      rcases ins_mem.1 hx with rfl | hx
      · exact ⟨by show 1 ≤ i + 1; omega, hi⟩
      · exact h.held x hx
    obtain ⟨r1, r2, r3⟩ := go_piece l S.next _ hp (by have := h.next; omega) (by have := h.next; have := h.le; omega)
    have hn : S.next - 1 = n := by have := h.next; omega
    rw [hn] at r1 r2
    simp only [if_true]
    unfold Dk.take Dk.went
    exact ⟨⟨by show S.next + _ = _; have := h.next; omega, r2, r3⟩, r1⟩
theorem Dk.came_win (S : Dk) (n : Nat) (s : ByteArray) : (S.came n s).win = S.win := by unfold Dk.came; split <;> rfl

def OrdRel (W : World) (N p q M win : Nat) (l : List ByteArray) (vn vi : Value) (wr : World) (m : Nat) : Prop :=
  ∃ i n S L, vi = .int .i64 ((i : Nat) : Int) ∧ vn = .int .i64 ((n : Nat) : Int) ∧ i ≤ m ∧ Ord l n S ∧ S.win = win ∧ S.ok i ∧ DkOn W N p q M S L wr

set_option maxRecDepth 20000 in
set_option maxHeartbeats 16000000 in
theorem law_DockOrder (v0 : Int) (v1 : List ByteArray) (ao1 : Option Addr) (c1 : Nat) (v2 : List Int) (ao2 : Option Addr) (c2 : Nat) (W : World) (h1 : StrsB W ao1 c1 v1) (h2 : SlV W ao2 c2 (v2.map iV)) :
    Calls Try.prog 5 #[.int .i64 v0, .slice ao1 v1.length c1, .slice ao2 v2.length c2] W (DkOk W) := by
  have A1 := Lib.hid h1
  have A2 := Lib.hid h2
  clear h1 h2
  go_enter Try.func5, Try.ntmps5
  go_wp2_with fail
  refine (dk_awake W).mono ?_
  rintro e w0 ⟨rfl, b0⟩
  have B0 := Lib.hid b0
  clear b0
  obtain ⟨len, hlen⟩ : ∃ x, x = v1.length := ⟨_, rfl⟩
  obtain ⟨m, hm⟩ : ∃ x, x = v2.length := ⟨_, rfl⟩
  rw [← hlen, ← hm]
  have LN := Lib.hid hlen
  have MN := Lib.hid hm
  clear hlen hm
  by_cases hb : v0 < 1 ∨ v0 > 16 ∨ 30 < len ∨ 100 < m
  · cases d1 : decide (v0 < 1) <;> cases d2 : decide (v0 > 16) <;> cases d3 : decide ((len : Int) > 30) <;> cases d4 : decide ((m : Int) > 100)
    case false.false.false.false =>
      simp only [decide_eq_false_iff_not] at d1 d2 d3 d4
      omega
    all_goals
      clear hb
      go_wp2_with fail
      go_ret
      exact ⟨rfl, B0.out⟩
  · obtain ⟨win, rfl⟩ := Int.eq_ofNat_of_zero_le (show 0 ≤ v0 by omega)
    have hw : 1 ≤ win ∧ win ≤ 16 := by omega
    have hln : len ≤ 30 := by omega
    have hmn : m ≤ 100 := by omega
    have d1 : decide ((win : Int) < 1) = false := decide_eq_false (by omega)
    have d2 : decide ((win : Int) > 16) = false := decide_eq_false (by omega)
    have d3 : decide ((len : Int) > 30) = false := decide_eq_false (by omega)
    have d4 : decide ((m : Int) > 100) = false := decide_eq_false (by omega)
    have HW := Lib.hid hw
    clear hb hw
    go_wp2_with fail
    refine (on_new (W := W) (N := W.heap.size) win HW.out.1 HW.out.2 B0.out B0.out.size rfl).mono ?_
    rintro e w1 ⟨p, q, M, rfl, h1, -, -⟩
    have L1 := Lib.hid h1
    clear h1 B0 d1 d2 d3 d4
    go_wp2_with fail
    go_loopw [9, 10] (fun vn vi wr => OrdRel W W.heap.size p q M win v1 vn vi wr m) (fun _ v _ => m - (intOf v).toNat)
    case atStart => exact ⟨0, 0, _, [], rfl, rfl, Nat.zero_le _, ⟨rfl, Nat.zero_le _, fun x hx => by cases hx⟩, rfl, Dk.ok_new HW.out, L1.out⟩
    case round =>
      clear L1
      obtain ⟨i, n, S, L, rfl, rfl, hi, hO, hwin, hS, hL⟩ := hrel
      have L2 := Lib.hid hL
      have OR := Lib.hid hO
      have OK := Lib.hid hS
      have WN := Lib.hid hwin
      have hnl : n ≤ len := by rw [LN.out]; exact hO.le
      clear hL hO hS hwin
      by_cases hlt : i < m
      · have hi0 : i < v2.length := by rw [← MN.out]; exact hlt
        obtain ⟨ba, fa, rfl, hba, k0⟩ := A2.out.at i hi0
        have y0 : wr.cell? ⟨ba, fa + i, none⟩ = some (.int .i64 v2[i]) := (L2.out.be.cell (p := ⟨ba, fa + i, none⟩) hba).trans k0
        have i0 : (0 : Int) ≤ (i : Int) := by omega
        have i1 : (i : Int) < (m : Int) := by omega
        have wk : IntKind.i64.wrap ((i : Int) + 1) = (i : Int) + 1 := wrapN (by omega)
        generalize v2[i] = z at *
        clear k0
        by_cases hz : z < 0 ∨ (len : Int) ≤ z
        · have HR := Lib.hid (show OrdRel W W.heap.size p q M win v1 (.int .i64 (n : Nat)) (.int .i64 ((i : Int) + 1)) wr m from ⟨i + 1, n, S, L, by go_num, rfl, by omega, OR.out, WN.out, OK.out.more (by omega), L2.out⟩)
          cases e1 : decide (z < 0) <;> cases e2 : decide (z ≥ (len : Int))
          case false.false =>
            simp only [decide_eq_false_iff_not] at e1 e2
            omega
          all_goals
            clear hz
            go_wp2_with fail
            go_roundw
            case rel => exact HR.out
            case measure => simp only [intOf]; omega
        · obtain ⟨j, rfl⟩ := Int.eq_ofNat_of_zero_le (show 0 ≤ z by omega)
          have e1 : decide ((j : Int) < 0) = false := decide_eq_false (by omega)
          have e2 : decide ((j : Int) ≥ (len : Int)) = false := decide_eq_false (by omega)
          have e3 : decide (len ≤ j) = false := decide_eq_false (by omega)
          have hjl : j < len := by omega
          have hj0 : j < v1.length := by rw [← LN.out]; exact hjl
          obtain ⟨bb, fb, rfl, hbb, k1⟩ := A1.out.1.at j hj0
          have SZ := A1.out.2 v1[j] (List.getElem_mem _)
          have HJ := Lib.hid (show v1[j]? = some v1[j] from List.getElem?_eq_getElem hj0)
          have y1 : wr.cell? ⟨bb, fb + j, none⟩ = some (.string v1[j]) := (L2.out.be.cell (p := ⟨bb, fb + j, none⟩) hbb).trans k1
          generalize v1[j] = s at *
          have hcv := fun (w : World) (s : ByteArray) => Lib.run_convert_string_bytes (P := Try.prog) w 9 31 5 s Try.underlying9 Try.underlying31 Try.underlying5
          have j0 : (0 : Int) ≤ (j : Int) := by omega
          have j1 : (j : Int) < (len : Int) := by omega
          have wj : IntKind.i64.wrap ((j : Int) + 1) = (j : Int) + 1 := wrapN (by omega)
          have wu : IntKind.u64.wrap ((j : Int) + 1) = (j : Int) + 1 := wrapU (by omega)
          obtain ⟨g, hg⟩ : ∃ g, (S.gave (j + 1) s).length = g := ⟨_, rfl⟩
          have O := Lib.hid (on_str (c := 100) (num := j + 1) (z := (j : Int) + 1) (L2.out.drewN 1) (OK.out.more (by omega)) (by decide) (by omega) (by omega) SZ rfl rfl hg rfl)
          have RO := Lib.hid (OR.out.came HJ.out)
          have G := Lib.hid hg
          have bw := Below.cell (p := ⟨ba, fa + i, none⟩) (below_new wr.drew s) (cell_lt y0)
          have y2 : wr.drew.cell? ⟨ba, fa + i, none⟩ = some (.int .i64 (j : Int)) := y0
          have y3 : wr.drew.cell? ⟨bb, fb + j, none⟩ = some (.string s) := y1
          have y4 : (Lib.bytesWorld wr.drew 5 s).cell? ⟨ba, fa + i, none⟩ = some (.int .i64 (j : Int)) := bw.trans y2
          clear hg k1 bw
          go_upto_region 13 with fail
          go_cut [11, 12] from 64 to 81 (fun v11 v12 wx => (∃ b : Bool, v12 = .bool b) ∧ ∃ a cap, v11 = .slice a g cap ∧ DkOn W W.heap.size p q M (S.came (j + 1) s) ((.slice a g cap, S.gave (j + 1) s) :: L) wx)
          case first =>
            go_region_law (go_simp; go_at_call 10; refine O.out.mono ?_; rintro e w3 ⟨a3, c3, rfl, h3⟩; have L3 := Lib.hid h3; clear h3)
            all_goals go_wp2_with fail
            all_goals go_meet
            all_goals exact ⟨⟨_, rfl⟩, _, _, rfl, L3.out⟩
          case rest =>
            obtain ⟨⟨b, rfl⟩, a3, c3, rfl, h3⟩ := hcut
            have L3 := Lib.hid h3
            clear h3 O L2 y0 y1 y2 y3 y4
            obtain ⟨S2, hS2⟩ : ∃ S2, S.came (j + 1) s = S2 := ⟨_, rfl⟩
            obtain ⟨ss, hss⟩ : ∃ ss, S.gave (j + 1) s = ss := ⟨_, rfl⟩
            have K2 := Lib.hid (show S2.ok (i + 1) from hS2 ▸ OK.out.came s)
            have W2 := Lib.hid (show S2.win = win by rw [← hS2, Dk.came_win]; exact WN.out)
            obtain ⟨ro1, ro2⟩ := RO.out
            rw [hS2, G.out] at ro1
            have GS := Lib.hid (show ss.length = g by rw [← hss]; exact G.out)
            rw [hss, GS.out] at ro2
            have R1 := Lib.hid ro1
            have R2 := Lib.hid ro2
            have hng : n + g ≤ len := by rw [LN.out]; exact ro1.le
            rw [hS2, hss] at L3
            clear RO ro1 ro2 G OK OR WN
            obtain ⟨a', cap', LB, e1', hLB, rB, bB⟩ := L3.out.ups (.slice a3 g c3, ss) (by simp)
            simp only [Value.slice.injEq] at e1'
            obtain ⟨rfl, hgl, rfl⟩ := e1'
            rw [← hgl] at rB
            have RB := Lib.hid rB
            have BB := Lib.hid bB
            have LB1 := Lib.hid hLB
            have GL := Lib.hid hgl
            have hfit := rB.fit
            have hmax := rB.max
            unfold maxLen at hmax
            clear rB bB hLB hgl
            go_wp2_with fail
            go_loopw [9, 13] (fun vn vk wx => ∃ k q', k ≤ g ∧ vk = .int .i64 ((k : Nat) : Int) ∧ vn = .int .i64 ((n + k : Nat) : Int) ∧ wx = wc.drewN q') (fun _ vk _ => g - (intOf vk).toNat)
            case atStart => exact ⟨0, 0, Nat.zero_le _, rfl, rfl, rfl⟩
            case round =>
              obtain ⟨k, q', hk, rfl, rfl, rfl⟩ := hrel
              by_cases hkg : k < g
              · have hk1 : k < LB.length := by rw [← GL.out]; exact hkg
                have hk2 : k < ss.length := by rw [GS.out]; exact hkg
                have hk3 : n + k < v1.length := by rw [← LN.out]; omega
                obtain ⟨o1, f1, rfl, ho1, -, x0⟩ := RB.out.cell k (bdV LB[k]) (by rw [List.getElem?_map, List.getElem?_eq_getElem hk1]; rfl)
                obtain ⟨bb', fb', e', hbb', x1⟩ := A1.out.1.at (n + k) hk3
                cases e'
                have hsame : LB[k].s = v1[n + k] := by
                  have e2 : LB[k].s = ss[k] := by
                    have := LB1.out
                    subst this
                    rw [List.getElem_map]
                  have e3 : ss[k]? = v1[n + k]? := by
                    rw [R2.out, List.getElem?_take, if_pos hkg, List.getElem?_drop]
                  rw [List.getElem?_eq_getElem hk2, List.getElem?_eq_getElem hk3] at e3
                  rw [e2]
                  exact Option.some.inj e3
                have hB := BB.out LB[k] (List.getElem_mem _)
                generalize LB[k] = bd at *
                generalize v1[n + k] = sx at *
                obtain ⟨ab, cb, sb⟩ := bd
                have hs' : sb = sx := hsame
                subst hs'
                have z1 : (wc.drewN q').cell? ⟨o1, f1 + k, none⟩ = some (.slice ab sb.size cb) := x0
                have z2 : (wc.drewN q').cell? ⟨bb, fb + (n + k), none⟩ = some (.string sb) := (L3.out.be.cell (p := ⟨bb, fb + (n + k), none⟩) hbb).trans x1
                have cv : ∀ j, (convert 31 9 (.slice ab sb.size cb)).run Try.prog ((wc.drewN q').drewN j) = .ok (.string sb) ((wc.drewN q').drewN j) := fun j => by
                  have := conv_any (w := (wc.drewN q').drewN j) (hB.1.below ⟨rfl, rfl, rfl, Nat.le_refl _, fun _ _ => rfl⟩) (bsN_len sb)
                  rw [strB_bsN] at this
                  exact this
                have cv0 := cv 0
                obtain ⟨nk, hnk⟩ : ∃ x, x = n + k := ⟨_, rfl⟩
                rw [← hnk] at z2 ⊢
                have NK := Lib.hid hnk
                have a0 : (0 : Int) ≤ (k : Int) := by omega
                have a1 : (k : Int) < (g : Int) := by omega
                have a2 : (0 : Int) ≤ (nk : Int) := by omega
                have a4 : (nk : Int) < (len : Int) := by omega
                have dg : decide ((nk : Int) ≥ (len : Int)) = false := decide_eq_false (by omega)
                have dg2 : decide (len ≤ nk) = false := decide_eq_false (by omega)
                have wk1 : IntKind.i64.wrap ((k : Int) + 1) = (k : Int) + 1 := wrapN (by omega)
                have wk2 : IntKind.i64.wrap ((nk : Int) + 1) = (nk : Int) + 1 := wrapN (by omega)
                have hQ := Lib.hid (fun j => (show ∃ q2, (wc.drewN q').drewN j = wc.drewN q2 from ⟨q' + j, by rw [World.drewN_drewN]⟩))
                clear x0 x1 hsame hB hk1 hk2 hk3 hnk
                generalize wc.drewN q' = ww at *
                go_wp2_with fail
                go_quiet (fail)
                go_wp2_with fail
                go_roundw
                case rel => exact (hQ.out _).elim fun q2 e => ⟨k + 1, q2, by omega, by go_num, by have := NK.out; go_num, e⟩
                case measure => simp only [intOf]; omega
              · obtain rfl : k = g := by omega
                have dk : decide ((k : Int) < (k : Int)) = false := decide_eq_false (by omega)
                have L4 := Lib.hid (L3.out.drewN q')
                generalize wc.drewN q' = w5 at *
                obtain ⟨nk, hnk⟩ : ∃ x, x = n + k := ⟨_, rfl⟩
                rw [← hnk]
                have wn1 : IntKind.i64.wrap ((nk : Int) + 1) = (nk : Int) + 1 := wrapN (by omega)
                have wn2 : IntKind.u64.wrap ((nk : Int) + 1) = (nk : Int) + 1 := wrapU (by omega)
                have hnx : ((S2.next : Nat) : Int) = (nk : Int) + 1 := by rw [R1.out.next, hnk]; simp
                have hlw : S2.nums.length < win := by
                  have := K2.out.len.2
                  rw [W2.out] at this
                  show (S2.held.map _).length < _
                  rw [List.length_map]
                  exact this
                have RN := Lib.hid (show Ord v1 nk S2 from hnk ▸ R1.out)
                obtain ⟨hl, hhl⟩ : ∃ x, x = S2.nums.length := ⟨_, rfl⟩
                rw [← hhl] at hlw
                have HH := Lib.hid hhl
                have d6 : decide ((hl : Int) ≥ (win : Int)) = false := decide_eq_false (by omega)
                have d7 : decide (win ≤ hl) = false := decide_eq_false (by omega)
                have RR := Lib.hid (fun (w : World) (L : List (Value × List ByteArray)) (h : DkOn W W.heap.size p q M S2 L w) => show OrdRel W W.heap.size p q M win v1 (.int .i64 (nk : Nat)) (.int .i64 ((i : Int) + 1)) w m from ⟨i + 1, nk, S2, L, by go_num, rfl, by omega, RN.out, W2.out, K2.out, h⟩)
                clear hnk hhl R1 R2 L3
                by_cases hw1 : win = 1
                · have hl0 : hl = 0 := by omega
                  have d8 : decide ((hl : Int) > 0) = false := decide_eq_false (by omega)
                  have d9 : decide (0 < hl) = false := decide_eq_false (by omega)
                  have e4 : ((win : Int) == 1) = true := by simp; omega
                  clear hl0 hw1
                  go_wp2_with fail
                  refine (on_next (z := (nk : Int) + 1) L4.out hnx).mono ?_
                  rintro e w6 ⟨rfl, hw4⟩
                  have hw5 := hw4.symm
                  clear hw4
                  subst hw5
                  go_wp2_with fail
                  refine (on_held (c := i + 1) L4.out K2.out).mono ?_
                  rintro e w7 ⟨a7, c7, rfl, -, -, h7, -⟩
                  have L7 := Lib.hid h7
                  clear h7 L4
                  rw [← HH.out]
                  go_wp2_with fail
                  refine (on_held (c := i + 1) L7.out K2.out).mono ?_
                  rintro e w8 ⟨a8, c8, rfl, -, -, h8, -⟩
                  have L8 := Lib.hid h8
                  clear h8 L7
                  rw [← HH.out]
                  go_wp2_with fail
                  go_roundw
                  case rel => exact RR.out _ _ L8.out
                  case measure => simp only [intOf]; omega
                · have e4 : ((win : Int) == 1) = false := by simp; omega
                  clear hw1
                  go_wp2_with fail
                  refine (on_next (z := (nk : Int) + 1) L4.out hnx).mono ?_
                  rintro e w6 ⟨rfl, hw4⟩
                  have hw5 := hw4.symm
                  clear hw4
                  subst hw5
                  go_wp2_with fail
                  refine (on_held (c := i + 1) L4.out K2.out).mono ?_
                  rintro e w7 ⟨a7, c7, rfl, -, -, h7, -⟩
                  have L7 := Lib.hid h7
                  clear h7 L4
                  rw [← HH.out]
                  go_wp2_with fail
                  go_roundw
                  case rel => exact RR.out _ _ L7.out
                  case measure => simp only [intOf]; omega
      · obtain rfl : i = m := by omega
        have dk : decide ((i : Int) < (i : Int)) = false := decide_eq_false (by omega)
        go_wp2_with fail
        go_ret
        exact ⟨rfl, L2.out.be⟩

end Go.Proofs.Ythipdinpbihhmaa
