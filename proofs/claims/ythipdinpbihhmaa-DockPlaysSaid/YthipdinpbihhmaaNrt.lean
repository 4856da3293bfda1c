/-
  The document's own dock: Take.
-/
import Derived.Test.YthipdinpbihhmaaNrd
import Derived.Deep.CutBlock
import Derived.Deep.CutRange
import Derived.Deep.RegionHeld3
namespace Go.Proofs.Ythipdinpbihhmaa
open Go.RowKit

def RtPost (W : World) (r M : Nat) (S : Dk) (num : Nat) (s : ByteArray) (e : Ending) (w : World) : Prop :=
  ∃ a cap, e = .returned (.tuple #[.slice a (S.gave num s).length cap, .bool (S.may num)]) ∧ SlV w a cap ((S.gave num s).map Value.string) ∧ RdAt w r M (S.came num s) ∧ Keep (fun k => k = r) W w

/-- Between two rounds. -/
def RgRel (W : World) (r M win next hi N1 : Nat) (L0 : List (Nat × ByteArray)) (v : Value) (wr : World) : Prop :=
  ∃ (n2 : Nat) (L2 : List (Nat × ByteArray)) (ss : List ByteArray) (a : Option Addr) (cap : Nat), wr.ownsRow N1 9 1 v ss.length (ss.map Value.string) ∧ RdV (fun k => M ≤ k ∧ k < N1) wr r M win n2 a cap L2 ∧
    Up n2 hi L2 ∧ n2 ≤ hi ∧ goN next L0 = (ss ++ (goN n2 L2).1, (goN n2 L2).2) ∧ n2 = next + ss.length ∧ Keep (fun k => k = r) W wr

section
variable {W wr w2 w4 : World} {r M win next hi N1 n2 : Nat} {L0 L2 t : List (Nat × ByteArray)} {ss : List ByteArray} {a A : Option Addr} {cap : Nat} {x : ByteArray}

theorem rg_step {av : Option Addr} {cv g2 cap2 : Nat} {o : Obj} (hO : wr.ownsRow N1 9 1 (.slice av ss.length cv) ss.length (ss.map Value.string)) (hR : RdV (fun k => M ≤ k ∧ k < N1) wr r M win n2 a cap ((n2, x) :: t)) (hN1 : M ≤ N1) (hWN : W.heap.size ≤ N1)
    (hU : Up n2 hi ((n2, x) :: t)) (hg : goN next L0 = (ss ++ (goN n2 ((n2, x) :: t)).1, (goN n2 ((n2, x) :: t)).2)) (hn : n2 = next + ss.length) (hK : Keep (fun k => k = r) W wr)
    (hown : w2.ownsRow N1 9 1 (.slice (some ⟨g2, 0, none⟩) (ss.length + 1) cap2) (ss.length + 1) (ss.map Value.string ++ [.string x])) (hgr : (wr.alloc o).grownBy w2 (Value.slice av ss.length cv).ownBlock)
    (hA : (if cap = 1 then a else a.map (·.add (1 * 2))) = A) (h4 : Alike ((w2.setCell ⟨r, 2, none⟩ (.slice A t.length (cap - 1))).setCell ⟨r, 1, none⟩ (.int .u64 ((n2 + 1 : Nat) : Int))) w4) :
    RgRel W r M win next hi N1 L0 (.slice (some ⟨g2, 0, none⟩) (ss.length + 1) cap2) w4 := by
  have hrow : ∀ j, (Value.slice av ss.length cv).ownBlock = some j → N1 ≤ j ∧ j < wr.heap.size := hO.lt
  have hrM := hR.rM
  have k2 : Keep (fun k => (Value.slice av ss.length cv).ownBlock = some k) wr w2 := ((Keep.refl _ wr).alloc o).grown hgr (fun k h => Or.inl h)
  have k4 : Keep (fun k => (Value.slice av ss.length cv).ownBlock = some k ∨ k = r) wr w4 := h4.keep (Keep.setCell (F := fun k => (Value.slice av ss.length cv).ownBlock = some k ∨ k = r) (Keep.setCell (F := fun k => (Value.slice av ss.length cv).ownBlock = some k ∨ k = r) (k2.mono (fun i h => Or.inl h)) (p := ⟨r, 2, none⟩) (Or.inr rfl) _) (p := ⟨r, 1, none⟩) (Or.inr rfl) _)
  have c2 := hR.c.keep k2 (fun f => by have := (hrow r f).1; omega)
  have c4 : Cel 3 w4 r (rdC win (n2 + 1) (.slice A t.length (cap - 1))) := by
    refine Cel.conv (Cel.keep (F := fun _ => False) ((c2.put 2 _).put 1 _) (h4.keep (Keep.refl _ _)) id) (fun o ho => ?_)
    match o, ho with
    | 0, _ => rfl
    | 1, _ => rfl
    | 2, _ => rfl
  have hr1 := hR.row.drop 1 (by simp)
  rw [hA] at hr1
  have hr2 : RowV (fun k => M ≤ k ∧ k < N1) w4 A (cap - 1) t.length 2 (dI t) := by
    have e : (dI ((n2, x) :: t)).drop (1 * 2) = dI t := rfl
    rw [e] at hr1
    refine hr1.carry k4.size (fun k hk h => k4.block k hk (fun f => ?_))
    rcases f with f | f
    · have := (hrow k f).1; omega
    · omega
  have hown4 : w4.ownsRow N1 9 1 (.slice (some ⟨g2, 0, none⟩) (ss.length + 1) cap2) (ss.length + 1) (ss.map Value.string ++ [.string x]) := by
    refine own_carry hown (fun k hk => ?_)
    have hk2 := (hown.lt k hk).1
    have e1 : w4.heap[k]? = ((w2.setCell ⟨r, 2, none⟩ (.slice A t.length (cap - 1))).setCell ⟨r, 1, none⟩ (.int .u64 ((n2 + 1 : Nat) : Int))).heap[k]? := by rw [h4.1]
    rw [e1, Below.heap_setCell _ ⟨r, 1, none⟩ _ _ (by show k ≠ r; omega), Below.heap_setCell _ ⟨r, 2, none⟩ _ _ (by show k ≠ r; omega)]
  refine ⟨n2 + 1, t, ss ++ [x], A, cap - 1, ?_, ⟨c4, hrM, Nat.le_trans hR.size k4.size, hr2⟩, hU.tail, ?_, ?_, ?_, ?_⟩
  · rw [List.length_append, List.map_append]
    exact hown4
  · exact (hU.2 (n2, x) (List.mem_cons_self ..)).2
  · rw [hg, goN_first, List.append_assoc]
    rfl
  · rw [List.length_append, List.length_singleton]; omega
  · refine hK.trans k4 (fun i hi f => ?_)
    rcases f with f | f
    · have := (hrow i f).1; omega
    · exact f

theorem rg_done {S : Dk} {num : Nat} {s : ByteArray} {v : Value} (hm : S.may num = true) (h0 : L0 = ins num s S.held) (hnx : next = S.next) (hw : win = S.win) (hO : wr.ownsRow N1 9 1 v ss.length (ss.map Value.string)) (hR : RdV (fun k => M ≤ k ∧ k < N1) wr r M win n2 a cap L2)
    (hg : goN next L0 = (ss ++ (goN n2 L2).1, (goN n2 L2).2)) (hn : n2 = next + ss.length) (hK : Keep (fun k => k = r) W wr) (hz : goN n2 L2 = ([], L2)) : RtPost W r M S num s (.returned (.tuple #[v, .bool true])) wr := by
  subst h0 hnx hw
  rw [hz, List.append_nil] at hg
  obtain ⟨-, av, cv, rfl, hs⟩ := own_slv hO
  have e1 : S.gave num s = ss := by unfold Dk.gave Dk.went; rw [hm, if_pos rfl, hg]
  have e2 : S.came num s = ⟨S.win, n2, L2⟩ := by
    unfold Dk.came Dk.take Dk.went
    rw [hm, if_pos rfl, hg, hn]
  unfold RtPost
  rw [e1, e2, hm]
  rw [List.length_map]
  exact ⟨av, cv, rfl, hs, ⟨a, cap, hR.c, hR.rM, hR.size, hR.row.mono (fun k _ h => h.1)⟩, hK⟩
end

section
variable {W : World} {r M : Nat} {S : Dk}

set_option maxRecDepth 20000 in
set_option maxHeartbeats 8000000 in
theorem rd_take {c num : Nat} {s : ByteArray} (h : RdAt W r M S) (hS : S.ok c) (hc : c ≤ 1000) (hn : num < 18446744073709551616) :
    Calls Try.prog 14 #[.pointer (some ⟨r, 0, none⟩), .int .u64 (num : Nat), .string s] W (RtPost W r M S num s) := by
  obtain ⟨ao, co, hR⟩ := h
  have hnx := hS.next
  have hwin := hS.win
  have NO := Lib.hid (fun (k : Nat) (hm : S.may num = false) => show RtPost W r M S num s (.returned (.tuple #[.slice none 0 0, .bool (S.may num)])) (W.drewN k) from by
    have h1 : S.gave num s = [] := by unfold Dk.gave; rw [hm]; rfl
    have h2 : S.came num s = S := by unfold Dk.came; rw [hm]; rfl
    unfold RtPost
    rw [h1, h2]
    exact ⟨none, 0, rfl, SlV.none _, ⟨ao, co, hR.drewN k⟩, (Keep.refl _ W).drewN k⟩)
  obtain ⟨c0, c1, c2⟩ := hR.cells
  have HR := Lib.hid hR
  have HS := Lib.hid hS
  clear hR hS
  have ww : IntKind.u64.wrap (S.win : Int) = (S.win : Int) := wrapU (by omega)
  go_enter Try.func14, Try.ntmps14
  by_cases h1 : num < S.next
  · have d1 : decide ((num : Int) < (S.next : Int)) = true := decide_eq_true (by omega)
    have d2 : decide (num < S.next) = true := decide_eq_true h1
    have hm : S.may num = false := by
      cases e : S.may num
      · rfl
      · have := (Dk.may_is.1 e).1; omega
    have NO2 := Lib.hid (fun k => NO.out k hm)
    rw [hm] at NO2
    clear NO h1 hm
    go_wp2_with fail
    go_quiet (fail)
    go_wp2_with fail
    go_ret2
    exact NO2.out _
  · have d1 : decide ((num : Int) < (S.next : Int)) = false := decide_eq_false (by omega)
    have d2 : decide (num < S.next) = false := decide_eq_false h1
    obtain ⟨d, hd⟩ : ∃ d, d = num - S.next := ⟨_, rfl⟩
    have wd : IntKind.u64.wrap ((num : Int) - (S.next : Int)) = (d : Int) := by rw [wrapU (by omega)]; omega
    by_cases h2 : d < S.win
    · have d3 : decide ((d : Int) ≥ (S.win : Int)) = false := decide_eq_false (by omega)
      have d4 : decide (S.win ≤ d) = false := decide_eq_false (by omega)
      have HD := Lib.hid hd
      clear hd
      go_wp2_with fail
      go_quiet (fail)
      go_upto_block 0 with fail
      have NO1 := Lib.hid (fun hm => NO.out nq hm)
      have R1 := Lib.hid (HR.out.drewN nq)
      have KW := Lib.hid (show Keep (fun k => k = r) W (W.drewN nq) from (Keep.refl _ W).drewN nq)
      clear NO HR c0 c1 c2 wd d1 d2 d3 d4 ww
      generalize W.drewN nq = w1 at *
      obtain ⟨c0, c1, c2⟩ := R1.out.cells
      obtain ⟨n, hn'⟩ : ∃ n, n = S.held.length := ⟨_, rfl⟩
      rw [← hn'] at c2
      have NN := Lib.hid hn'
      have hfit := R1.out.row.fit
      have hmax := R1.out.row.max
      unfold maxLen at hmax
      rw [← hn'] at hfit
      clear hn'
      go_cut [8] from 30 to 50 (fun v wx => ∃ k, v = .int .i64 ((k : Nat) : Int) ∧ k ≤ n ∧ Hid (∀ i (h : i < S.held.length), i < k → S.held[i].1 < num) ∧ Hid (∀ h : k < S.held.length, num ≤ S.held[k].1) ∧ wx = w1)
      case first =>
        go_wp2_with fail
        go_loopw [8] (fun v wx => ∃ k, v = .int .i64 ((k : Nat) : Int) ∧ k ≤ n ∧ Hid (∀ i (h : i < S.held.length), i < k → S.held[i].1 < num) ∧ wx = w1) (fun v _ => n - (intOf v).toNat)
        case atStart => exact ⟨0, rfl, Nat.zero_le _, Lib.hid (fun i h hi => by omega), by first | rfl | trivial⟩
        case round =>
          obtain ⟨k, rfl, hk, HK, rfl⟩ := hrel
          by_cases hlt : k < n
          · have hk2 : k < S.held.length := by rw [← NN.out]; exact hlt
            obtain ⟨x0, -⟩ := dI_at k S.held hk2
            obtain ⟨b, off, rfl, hb, -, k0⟩ := R1.out.row.cell _ _ x0
            unfold uN at k0
            have g1 : decide ((k : Int) < (n : Int)) = true := decide_eq_true (by omega)
            have g2 : decide (k < n) = true := decide_eq_true hlt
            have i0 : (0 : Int) ≤ (k : Int) := by omega
            have i1 : (k : Int) < (n : Int) := by omega
            by_cases hl : S.held[k].1 < num
            · have HK2 := Lib.hid (show ∀ i (h : i < S.held.length), i < k + 1 → S.held[i].1 < num from fun i h hi => by
                by_cases e : i = k
                · subst e; exact hl
                · exact HK.out i h (by omega))
              have g3 : decide (((S.held[k].1 : Nat) : Int) < (num : Int)) = true := decide_eq_true (by omega)
              have wk : IntKind.i64.wrap ((k : Int) + 1) = (k : Int) + 1 := wrapN (by have := HS.out.len.1; have := NN.out; omega)
              clear x0 HK
              generalize S.held[k].1 = z at *
              clear hk2
              go_wp2_with fail
              go_roundw
              case rel => exact ⟨k + 1, by go_num, by omega, HK2, by first | rfl | trivial⟩
              case measure => simp only [intOf]; omega
            · have HE := Lib.hid (show ∀ h : k < S.held.length, num ≤ S.held[k].1 from fun _ => by omega)
              have g3 : decide (((S.held[k].1 : Nat) : Int) < (num : Int)) = false := decide_eq_false (by omega)
              clear x0
              generalize S.held[k].1 = z at *
              clear hk2
              go_wp2_with fail
              go_meet
              exact ⟨k, rfl, hk, HK, HE, by first | rfl | trivial⟩
          · obtain rfl : k = n := by omega
            have g1 : decide ((k : Int) < (k : Int)) = false := decide_eq_false (by omega)
            have g2 : decide (k < k) = false := decide_eq_false (by omega)
            have HE := Lib.hid (show ∀ h : k < S.held.length, num ≤ S.held[k].1 from fun h => by have := NN.out; omega)
            go_wp2_with fail
            go_meet
            exact ⟨k, rfl, hk, HK, HE, by first | rfl | trivial⟩
      case rest =>
        obtain ⟨k, rfl, hk, HK, HE, hwc⟩ := hcut
        subst hwc
        have wk : IntKind.i64.wrap (k : Int) = (k : Int) := wrapN (by have := HS.out.len.1; have := NN.out; omega)
        have kn : k ≤ 15 := by have := HS.out.len.1; have := NN.out; omega
        by_cases hyes : ∃ h : k < S.held.length, S.held[k].1 = num
        · obtain ⟨hk2, hkn⟩ := hyes
          have hm : S.may num = false := by
            cases e : S.may num
            · rfl
            · have h3 := (Dk.may_is.1 e).2.2
              have h4 := look_yes hk2
              rw [hkn, h3] at h4
              cases h4
          have NO2 := Lib.hid (NO1.out hm)
          rw [hm] at NO2
          obtain ⟨x0, -⟩ := dI_at k S.held hk2
          rw [hkn] at x0
          obtain ⟨b, off, rfl, hb, -, k0⟩ := R1.out.row.cell _ _ x0
          unfold uN at k0
          have hlt : k < n := by rw [NN.out]; exact hk2
          have g1 : decide ((k : Int) < (n : Int)) = true := decide_eq_true (by omega)
          have g2 : decide (k < n) = true := decide_eq_true hlt
          have i0 : (0 : Int) ≤ (k : Int) := by omega
          have i1 : (k : Int) < (n : Int) := by omega
          clear x0 hkn hk2 NO1 HK HE
          go_wp2_with fail
          go_ret2
          exact NO2.out
        · have HG := Lib.hid (show ∀ h : k < S.held.length, num < S.held[k].1 from fun h => by
            have := HE.out h
            have : ¬ S.held[k].1 = num := fun e => hyes ⟨h, e⟩
            omega)
          have hlk : S.held.lookup num = none := look_no HS.out.up.1 HK.out HG.out
          have HI := Lib.hid (ins_split (s := s) (by rw [← NN.out]; exact hk) HK.out HE.out)
          have hm : S.may num = true := Dk.may_is.2 ⟨by omega, by have := HD.out; omega, hlk⟩
          have HM := Lib.hid hm
          clear NO1 hyes hlk hm
          go_upto_region 6 with fail
          go_cut [69] from 51 to 69 (fun v wx => v = .bool false ∧ wx = wc)
          case first =>
            by_cases hlt : k < n
            · have hk2 : k < S.held.length := by rw [← NN.out]; exact hlt
              obtain ⟨x0, -⟩ := dI_at k S.held hk2
              have hg := HG.out hk2
              obtain ⟨b, off, rfl, hb, -, k0⟩ := R1.out.row.cell _ _ x0
              unfold uN at k0
              have g1 : decide ((k : Int) < (n : Int)) = true := decide_eq_true (by omega)
              have g2 : decide (k < n) = true := decide_eq_true hlt
              have i0 : (0 : Int) ≤ (k : Int) := by omega
              have i1 : (k : Int) < (n : Int) := by omega
              have ne : (((S.held[k].1 : Nat) : Int) == (num : Int)) = false := by simp; omega
              clear x0 hg HG HK HE
              generalize S.held[k].1 = z at *
              go_wp2_with fail
              go_meet
              exact ⟨rfl, rfl⟩
            · have g1 : decide ((k : Int) < (n : Int)) = false := decide_eq_false (by omega)
              have g2 : decide (k < n) = false := decide_eq_false hlt
              go_wp2_with fail
              go_meet
              exact ⟨rfl, rfl⟩
          case rest =>
            obtain ⟨rfl, rfl⟩ := hcut
            clear HG HK HE
            go_upto_region 8 with fail
            have hU0 : Up S.next (S.next + S.win) (ins num s S.held) := HS.out.ins HM.out s
            have UU := Lib.hid hU0
            go_cut [] from 70 to 92 (fun wx => ∃ a c, RdV (fun k => M ≤ k) wx r M S.win S.next a c (ins num s S.held) ∧ Keep (fun k => k = r) W wx)
            case first =>
              obtain ⟨i0, hi0, hz0, hz1, hz2⟩ := info_g Try.infoRi
              have hkc : k ≤ co := by omega
              have hrW : r < wc.heap.size := R1.out.c.lt
              have hk15 : n ≤ 15 := by have := HS.out.len.1; have := NN.out; omega
              obtain ⟨csA, hcA⟩ : ∃ csA, csA = dI (S.held.take k) := ⟨_, rfl⟩
              obtain ⟨csD, hcD⟩ : ∃ csD, csD = dI (S.held.drop k) := ⟨_, rfl⟩
              have hkl : k ≤ S.held.length := by rw [← NN.out]; exact hk
              have LA := Lib.hid (show csA.length = k * 2 by rw [hcA, dI_len, List.length_take, Nat.min_eq_left hkl])
              have LD := Lib.hid (show csD.length = (n - k) * 2 by rw [hcD, dI_len, List.length_drop, NN.out])
              have NA := Lib.hid (show ∀ u ∈ csA, u.oneCell' = true by rw [hcA]; exact dI_one _)
              have ND := Lib.hid (show ∀ u ∈ csD, u.oneCell' = true by rw [hcD]; exact dI_one _)
              have SA := Lib.hid (show RowV (fun k => M ≤ k) wc ao co k 2 csA by rw [hcA, ← dI_take k _ hkl]; exact R1.out.row.take k hkl)
              have SD := Lib.hid (show RowV (fun k => M ≤ k) wc (if co = k then ao else Option.map (fun x => x.add (k * 2)) ao) (co - k) (n - k) 2 csD by rw [hcD, ← dI_drop k _ hkl, NN.out]; exact R1.out.row.drop k hkl)
              have LL := Lib.hid (show csA ++ [.int .u64 (num : Int), .string s] ++ csD = dI (ins num s S.held) by rw [HI.out, hcA, hcD, dI_append, List.append_assoc]; rfl)
              have ML := Lib.hid (show k + 1 + (n - k) = (ins num s S.held).length by rw [ins_len, ← NN.out]; omega)
              have OA := Lib.hid (own_below (none_own wc 48 wc.heap.size 2 (Nat.le_refl _)) (drew_below _))
              have OB := Lib.hid (own_below (own_below (none_own wc 48 wc.heap.size 2 (Nat.le_refl _)) ((Below.refl _ _).alloc (Nat.le_refl _) (.cells #[.int .u64 (num : Int), .string s] 48))) (drew_below _))
              have OC := Lib.hid (own_below (none_own (wc.alloc (.cells #[.int .u64 (num : Int), .string s] 48)) 48 wc.heap.size 2 (by simp)) (drew_below _))
              have LB := Lib.hid ((lit2_row (wc.alloc (.cells #[] 48)) (.int .u64 (num : Int)) (.string s) #[.int .u64 (num : Int), .string s] 48 rfl).below (drew_below _))
              have LC := Lib.hid (((lit2_row wc (.int .u64 (num : Int)) (.string s) #[.int .u64 (num : Int), .string s] 48 rfl).below ((Below.refl _ _).alloc (Nat.le_refl _) (.cells #[] 48))).below (drew_below _))
              have HC := Lib.hid c2
              clear hcA hcD hkl hU0 UU c0 c1 wk hfit HS h1 h2 HD
              refine wp_region_noPanic ?_
              refine wp_region_z (S := (fun w' => w'.cell? ⟨r, 2, none⟩ = some (.slice ao n co) ∧ Hid (Below wc.heap.size wc w'))) (z := 23) (by kernel_rfl) ?_ (fun hHeld => ?_)
              · exact ⟨c2, Lib.hid (drew_below wc)⟩
              refine anyZ_take (i := 0) (oi := { dst := some 70, op := Op.move (Operand.tmp 0), type := 37, pos := "ref.go:237", after := #[], guard := none }) (v := ?_) rfl (by kernel_rfl) (by kernel_rfl) (by kernel_rfl) (by kernel_rfl) (fun _ _ _ h => h) (Or.inl ⟨by rfl, ?_⟩) (by assumption) ?_
              rotate_left
              · (intro w hSw; (try dsimp only at hSw); go_simp; try with_reducible rfl)
              ((try simp only [Act.put]); (try simp only [List.setIfInBounds_toArray]); (try simp only [List.set_cons_succ]); (try simp only [List.set_cons_zero]))
              refine anyZ_take (i := 2) (oi := { dst := some 72, op := Op.move (Operand.tmp 0), type := 37, pos := "ref.go:237", after := #[], guard := none }) (v := ?_) rfl (by kernel_rfl) (by kernel_rfl) (by kernel_rfl) (by kernel_rfl) (fun _ _ _ h => h) (Or.inl ⟨by rfl, ?_⟩) (by assumption) ?_
              rotate_left
              · (intro w hSw; (try dsimp only at hSw); go_simp; try with_reducible rfl)
              ((try simp only [Act.put]); (try simp only [List.setIfInBounds_toArray]); (try simp only [List.set_cons_succ]); (try simp only [List.set_cons_zero]))
              refine anyZ_take (i := 3) (oi := { dst := some 73, op := Op.nilCheck (Operand.tmp 72), type := 0, pos := "ref.go:237", after := #[{ on := 2, ground := Ground.data }], guard := none }) (v := ?_) rfl (by kernel_rfl) (by kernel_rfl) (by kernel_rfl) (by kernel_rfl) (fun _ _ _ h => h) (Or.inl ⟨by rfl, ?_⟩) (by assumption) ?_
              rotate_left
              · (intro w hSw; (try dsimp only at hSw); go_simp; try with_reducible rfl)
              ((try simp only [Act.put]); (try simp only [List.setIfInBounds_toArray]); (try simp only [List.set_cons_succ]); (try simp only [List.set_cons_zero]))
              refine anyZ_take (i := 4) (oi := { dst := some 74, op := Op.fieldAddr 46 (Operand.tmp 73) 2, type := 0, pos := "ref.go:237", after := #[{ on := 3, ground := Ground.data }], guard := none }) (v := ?_) rfl (by kernel_rfl) (by kernel_rfl) (by kernel_rfl) (by kernel_rfl) (fun _ _ _ h => h) (Or.inl ⟨by rfl, ?_⟩) (by assumption) ?_
              rotate_left
              · (intro w hSw; (try dsimp only at hSw); go_simp; try with_reducible rfl)
              ((try simp only [Act.put]); (try simp only [List.setIfInBounds_toArray]); (try simp only [List.set_cons_succ]); (try simp only [List.set_cons_zero]))
              refine anyZ_take (i := 5) (oi := { dst := some 75, op := Op.load 44 (Operand.tmp 74), type := 44, pos := "ref.go:237", after := #[{ on := 4, ground := Ground.data }], guard := none }) (v := ?_) rfl (by kernel_rfl) (by kernel_rfl) (by kernel_rfl) (by kernel_rfl) (fun _ _ _ h => h) (Or.inl ⟨by rfl, ?_⟩) (by assumption) ?_
              rotate_left
              · (intro w hSw; (try dsimp only at hSw); go_simp; try with_reducible rfl)
              ((try simp only [Act.put]); (try simp only [List.setIfInBounds_toArray]); (try simp only [List.set_cons_succ]); (try simp only [List.set_cons_zero]))
              refine anyZ_take (i := 6) (oi := { dst := some 76, op := Op.move (Operand.tmp 8), type := 3, pos := "ref.go:237", after := #[], guard := none }) (v := ?_) rfl (by kernel_rfl) (by kernel_rfl) (by kernel_rfl) (by kernel_rfl) (fun _ _ _ h => h) (Or.inl ⟨by rfl, ?_⟩) (by assumption) ?_
              rotate_left
              · (intro w hSw; (try dsimp only at hSw); go_simp; try with_reducible rfl)
              ((try simp only [Act.put]); (try simp only [List.setIfInBounds_toArray]); (try simp only [List.set_cons_succ]); (try simp only [List.set_cons_zero]))
              refine anyZ_take (i := 7) (oi := { dst := some 77, op := Op.slice 44 (Operand.tmp 75) none (some (Operand.tmp 76)) none, type := 44, pos := "ref.go:237", after := #[{ on := 5, ground := Ground.data }, { on := 6, ground := Ground.data }], guard := none }) (v := ?_) rfl (by kernel_rfl) (by kernel_rfl) (by kernel_rfl) (by kernel_rfl) (fun _ _ _ h => h) (Or.inl ⟨by rfl, ?_⟩) (by assumption) ?_
              rotate_left
              · (intro w hSw; (try dsimp only at hSw); go_simp; try with_reducible rfl)
              ((try simp only [Act.put]); (try simp only [List.setIfInBounds_toArray]); (try simp only [List.set_cons_succ]); (try simp only [List.set_cons_zero]))
              refine anyZ_take (i := 9) (oi := { dst := some 79, op := Op.move (Operand.tmp 1), type := 30, pos := "ref.go:237", after := #[], guard := none }) (v := ?_) rfl (by kernel_rfl) (by kernel_rfl) (by kernel_rfl) (by kernel_rfl) (fun _ _ _ h => h) (Or.inl ⟨by rfl, ?_⟩) (by assumption) ?_
              rotate_left
              · (intro w hSw; (try dsimp only at hSw); go_simp; try with_reducible rfl)
              ((try simp only [Act.put]); (try simp only [List.setIfInBounds_toArray]); (try simp only [List.set_cons_succ]); (try simp only [List.set_cons_zero]))
              refine anyZ_take (i := 10) (oi := { dst := some 80, op := Op.move (Operand.tmp 2), type := 9, pos := "ref.go:237", after := #[], guard := none }) (v := ?_) rfl (by kernel_rfl) (by kernel_rfl) (by kernel_rfl) (by kernel_rfl) (fun _ _ _ h => h) (Or.inl ⟨by rfl, ?_⟩) (by assumption) ?_
              rotate_left
              · (intro w hSw; (try dsimp only at hSw); go_simp; try with_reducible rfl)
              ((try simp only [Act.put]); (try simp only [List.setIfInBounds_toArray]); (try simp only [List.set_cons_succ]); (try simp only [List.set_cons_zero]))
              refine anyZ_take (i := 11) (oi := { dst := some 81, op := Op.build 48 #[(0, Operand.tmp 79), (1, Operand.tmp 80)], type := 48, pos := "ref.go:237", after := #[{ on := 9, ground := Ground.data }, { on := 10, ground := Ground.data }], guard := none }) (v := ?_) rfl (by kernel_rfl) (by kernel_rfl) (by kernel_rfl) (by kernel_rfl) (fun _ _ _ h => h) (Or.inl ⟨by rfl, ?_⟩) (by assumption) ?_
              rotate_left
              · (intro w hSw; (try dsimp only at hSw); go_simp; try with_reducible rfl)
              ((try simp only [Act.put]); (try simp only [List.setIfInBounds_toArray]); (try simp only [List.set_cons_succ]); (try simp only [List.set_cons_zero]))
              refine anyZ_take (i := 14) (oi := { dst := some 84, op := Op.move (Operand.tmp 0), type := 37, pos := "ref.go:237", after := #[], guard := none }) (v := ?_) rfl (by kernel_rfl) (by kernel_rfl) (by kernel_rfl) (by kernel_rfl) (fun _ _ _ h => h) (Or.inl ⟨by rfl, ?_⟩) (by assumption) ?_
              rotate_left
              · (intro w hSw; (try dsimp only at hSw); go_simp; try with_reducible rfl)
              ((try simp only [Act.put]); (try simp only [List.setIfInBounds_toArray]); (try simp only [List.set_cons_succ]); (try simp only [List.set_cons_zero]))
              refine anyZ_take (i := 15) (oi := { dst := some 85, op := Op.nilCheck (Operand.tmp 84), type := 0, pos := "ref.go:237", after := #[{ on := 14, ground := Ground.data }], guard := none }) (v := ?_) rfl (by kernel_rfl) (by kernel_rfl) (by kernel_rfl) (by kernel_rfl) (fun _ _ _ h => h) (Or.inl ⟨by rfl, ?_⟩) (by assumption) ?_
              rotate_left
              · (intro w hSw; (try dsimp only at hSw); go_simp; try with_reducible rfl)
              ((try simp only [Act.put]); (try simp only [List.setIfInBounds_toArray]); (try simp only [List.set_cons_succ]); (try simp only [List.set_cons_zero]))
              refine anyZ_take (i := 16) (oi := { dst := some 86, op := Op.fieldAddr 46 (Operand.tmp 85) 2, type := 0, pos := "ref.go:237", after := #[{ on := 15, ground := Ground.data }], guard := none }) (v := ?_) rfl (by kernel_rfl) (by kernel_rfl) (by kernel_rfl) (by kernel_rfl) (fun _ _ _ h => h) (Or.inl ⟨by rfl, ?_⟩) (by assumption) ?_
              rotate_left
              · (intro w hSw; (try dsimp only at hSw); go_simp; try with_reducible rfl)
              ((try simp only [Act.put]); (try simp only [List.setIfInBounds_toArray]); (try simp only [List.set_cons_succ]); (try simp only [List.set_cons_zero]))
              refine anyZ_take (i := 17) (oi := { dst := some 87, op := Op.load 44 (Operand.tmp 86), type := 44, pos := "ref.go:237", after := #[{ on := 16, ground := Ground.data }], guard := none }) (v := ?_) rfl (by kernel_rfl) (by kernel_rfl) (by kernel_rfl) (by kernel_rfl) (fun _ _ _ h => h) (Or.inl ⟨by rfl, ?_⟩) (by assumption) ?_
              rotate_left
              · (intro w hSw; (try dsimp only at hSw); go_simp; try with_reducible rfl)
              ((try simp only [Act.put]); (try simp only [List.setIfInBounds_toArray]); (try simp only [List.set_cons_succ]); (try simp only [List.set_cons_zero]))
              refine anyZ_take (i := 18) (oi := { dst := some 88, op := Op.move (Operand.tmp 8), type := 3, pos := "ref.go:237", after := #[], guard := none }) (v := ?_) rfl (by kernel_rfl) (by kernel_rfl) (by kernel_rfl) (by kernel_rfl) (fun _ _ _ h => h) (Or.inl ⟨by rfl, ?_⟩) (by assumption) ?_
              rotate_left
              · (intro w hSw; (try dsimp only at hSw); go_simp; try with_reducible rfl)
              ((try simp only [Act.put]); (try simp only [List.setIfInBounds_toArray]); (try simp only [List.set_cons_succ]); (try simp only [List.set_cons_zero]))
              refine anyZ_take (i := 19) (oi := { dst := some 89, op := Op.slice 44 (Operand.tmp 87) (some (Operand.tmp 88)) none none, type := 44, pos := "ref.go:237", after := #[{ on := 17, ground := Ground.data }, { on := 18, ground := Ground.data }], guard := none }) (v := ?_) rfl (by kernel_rfl) (by kernel_rfl) (by kernel_rfl) (by kernel_rfl) (fun _ _ _ h => h) (Or.inl ⟨by rfl, ?_⟩) (by assumption) ?_
              rotate_left
              · (intro w hSw; (try dsimp only at hSw); go_simp; try with_reducible rfl)
              ((try simp only [Act.put]); (try simp only [List.setIfInBounds_toArray]); (try simp only [List.set_cons_succ]); (try simp only [List.set_cons_zero]))
              refine anyZ_ready (rs := [1, 12]) (by kernel_rfl) (by simp) ?_
              refine AllZ.cons (o := { dst := some 71, op := Op.buildSlice 44 0 #[], type := 44, pos := "ref.go:237", after := #[], guard := none }) rfl (fun K hK => ?_) (AllZ.cons (o := { dst := some 82, op := Op.buildSlice 44 1 #[(0, Operand.tmp 81)], type := 44, pos := "ref.go:237", after := #[{ on := 11, ground := Ground.data }], guard := none }) rfl (fun K hK => ?_) AllZ.nil)
              · skip
                go_simp
                refine hK.out _ _ ?_ (fun hNew => ?_)
                · first | exact hHeld | exact ⟨cell_go hHeld.1 ((Below.refl _ _).alloc (Nat.le_refl _) _), Lib.hid ((Hid.out hHeld.2).alloc (Hid.out hHeld.2).size _)⟩ | exact ⟨cell_go HC.out B4.out, B4⟩ | exact ⟨cell_go HC.out B3.out, B3⟩ | exact ⟨cell_go HC.out B2.out, B2⟩
                clear hK K
                replace hHeld := hNew
                clear hNew
                ((try simp only [Act.put]); (try simp only [List.setIfInBounds_toArray]); (try simp only [List.set_cons_succ]); (try simp only [List.set_cons_zero]))
                refine anyZ_ready (rs := [8, 12]) (by kernel_rfl) (by simp) ?_
                refine AllZ.cons (o := { dst := some 78, op := Op.call { callee := Callee.builtin Builtin.append, args := #[Operand.tmp 71, Operand.tmp 77], argTypes := #[44, 44] }, type := 44, pos := "ref.go:237", after := #[{ on := 1, ground := Ground.data }, { on := 7, ground := Ground.data }], guard := none }) rfl (fun K hK => ?_) (AllZ.cons (o := { dst := some 82, op := Op.buildSlice 44 1 #[(0, Operand.tmp 81)], type := 44, pos := "ref.go:237", after := #[{ on := 11, ground := Ground.data }], guard := none }) rfl (fun K hK => ?_) AllZ.nil)
                · skip
                  refine step_append_at rfl (.tmp 71) (.tmp 77) 44 rfl wc.heap.size 48 i0 _ 2 24 Try.underlying44 hi0 hz0 hz1 hz2 rfl (by decide) _ _ _ (by first | (simp [Act.eval]; done) | (simp [Act.eval, Act.put]; done)) OA.out ao k co csA (by first | (simp [Act.eval]; done) | (simp [Act.eval, Act.put]; done)) LA.out (SA.out.below (Hid.out hHeld.2)).empty (SA.out.below (Hid.out hHeld.2)).news NA.out (by unfold maxLen; omega) (by omega) (Hid.out hHeld.2).size ?_
                  intro a2 cap2 w2 hown2 hgr hat2
                  have B2 := Lib.hid ((Hid.out hHeld.2).grown hgr (Hid.out hHeld.2).size (fun k h => (OA.out.lt k h).1))
                  have O2 := Lib.hid (show w2.ownsRow wc.heap.size 48 2 (.slice a2 (0 + k) cap2) k csA by rw [Nat.zero_add, List.nil_append] at hown2; rw [Nat.zero_add]; exact hown2)
                  have L2 := Lib.hid (lit2_row w2 (.int .u64 (num : Int)) (.string s) #[.int .u64 (num : Int), .string s] 48 rfl)
                  have O3 := Lib.hid (own_below O2.out ((Below.refl _ w2).alloc (Nat.le_refl _) (.cells #[.int .u64 (num : Int), .string s] 48)))
                  clear hown2 hgr hat2
                  refine hK.out _ _ ?_ (fun hNew => ?_)
                  · first | exact hHeld | exact ⟨cell_go hHeld.1 ((Below.refl _ _).alloc (Nat.le_refl _) _), Lib.hid ((Hid.out hHeld.2).alloc (Hid.out hHeld.2).size _)⟩ | exact ⟨cell_go HC.out B4.out, B4⟩ | exact ⟨cell_go HC.out B3.out, B3⟩ | exact ⟨cell_go HC.out B2.out, B2⟩
                  clear hK K
                  replace hHeld := hNew
                  clear hNew
                  ((try simp only [Act.put]); (try simp only [List.setIfInBounds_toArray]); (try simp only [List.set_cons_succ]); (try simp only [List.set_cons_zero]))
                  refine anyZ_ready (rs := [12]) (by kernel_rfl) (by simp) ?_
                  refine AllZ.cons (o := { dst := some 82, op := Op.buildSlice 44 1 #[(0, Operand.tmp 81)], type := 44, pos := "ref.go:237", after := #[{ on := 11, ground := Ground.data }], guard := none }) rfl (fun K hK => ?_) AllZ.nil
                  go_simp
                  refine hK.out _ _ ?_ (fun hNew => ?_)
                  · first | exact hHeld | exact ⟨cell_go hHeld.1 ((Below.refl _ _).alloc (Nat.le_refl _) _), Lib.hid ((Hid.out hHeld.2).alloc (Hid.out hHeld.2).size _)⟩ | exact ⟨cell_go HC.out B4.out, B4⟩ | exact ⟨cell_go HC.out B3.out, B3⟩ | exact ⟨cell_go HC.out B2.out, B2⟩
                  clear hK K
                  replace hHeld := hNew
                  clear hNew
                  ((try simp only [Act.put]); (try simp only [List.setIfInBounds_toArray]); (try simp only [List.set_cons_succ]); (try simp only [List.set_cons_zero]))
                  refine anyZ_ready (rs := [13]) (by kernel_rfl) (by simp) ?_
                  refine AllZ.cons (o := { dst := some 83, op := Op.call { callee := Callee.builtin Builtin.append, args := #[Operand.tmp 78, Operand.tmp 82], argTypes := #[44, 44] }, type := 44, pos := "ref.go:237", after := #[{ on := 8, ground := Ground.data }, { on := 12, ground := Ground.data }, { on := 8, ground := Ground.chain }], guard := none }) rfl (fun K hK => ?_) AllZ.nil
                  refine step_append_at rfl (.tmp 78) (.tmp 82) 44 rfl wc.heap.size 48 i0 _ 2 24 Try.underlying44 hi0 hz0 hz1 hz2 rfl (by decide) _ _ _ (by first | (simp [Act.eval]; done) | (simp [Act.eval, Act.put]; done)) O3.out _ 1 1 [.int .u64 (num : Int), .string s] (by first | (simp [Act.eval]; done) | (simp [Act.eval, Act.put]; done)) (by simp) (fun e => by cases e) L2.out.news (by simp [Value.oneCell']) (by unfold maxLen; omega) (by omega) (Hid.out hHeld.2).size ?_
                  intro a3 cap3 w3 hown3 hgr hat3
                  have B3 := Lib.hid ((Hid.out hHeld.2).grown hgr (Hid.out hHeld.2).size (fun k h => (O3.out.lt k h).1))
                  have O4 := Lib.hid hown3
                  clear hown3 hgr hat3
                  refine hK.out _ _ ?_ (fun hNew => ?_)
                  · first | exact hHeld | exact ⟨cell_go hHeld.1 ((Below.refl _ _).alloc (Nat.le_refl _) _), Lib.hid ((Hid.out hHeld.2).alloc (Hid.out hHeld.2).size _)⟩ | exact ⟨cell_go HC.out B4.out, B4⟩ | exact ⟨cell_go HC.out B3.out, B3⟩ | exact ⟨cell_go HC.out B2.out, B2⟩
                  clear hK K
                  replace hHeld := hNew
                  clear hNew
                  ((try simp only [Act.put]); (try simp only [List.setIfInBounds_toArray]); (try simp only [List.set_cons_succ]); (try simp only [List.set_cons_zero]))
                  refine anyZ_ready (rs := [20]) (by kernel_rfl) (by simp) ?_
                  refine AllZ.cons (o := { dst := some 90, op := Op.call { callee := Callee.builtin Builtin.append, args := #[Operand.tmp 83, Operand.tmp 89], argTypes := #[44, 44] }, type := 44, pos := "ref.go:237", after := #[{ on := 13, ground := Ground.data }, { on := 19, ground := Ground.data }, { on := 13, ground := Ground.chain }], guard := none }) rfl (fun K hK => ?_) AllZ.nil
                  refine step_append_at rfl (.tmp 83) (.tmp 89) 44 rfl wc.heap.size 48 i0 _ 2 24 Try.underlying44 hi0 hz0 hz1 hz2 rfl (by decide) _ _ _ (by first | (simp [Act.eval]; done) | (simp [Act.eval, Act.put]; done)) O4.out (if co = k then ao else Option.map (fun x => x.add (k * 2)) ao) (n - k) (co - k) csD (by first | (simp [Act.eval]; done) | (simp [Act.eval, Act.put]; done)) LD.out (SD.out.below (Hid.out hHeld.2)).empty (SD.out.below (Hid.out hHeld.2)).news ND.out (by unfold maxLen; omega) (by omega) (Hid.out hHeld.2).size ?_
                  intro a4 cap4 w4 hown4 hgr hat4
                  have B4 := Lib.hid ((Hid.out hHeld.2).grown hgr (Hid.out hHeld.2).size (fun k h => (O4.out.lt k h).1))
                  have f4 : w4.frozen? ⟨r, 2, none⟩ = false := (World.frozen?_of_block (a := ⟨r, 2, none⟩) (B4.out.block r hrW)).trans (R1.out.c.fz 2)
                  have R := Lib.hid (fun w5 h5 => rd_put (w5 := w5) (a4 := a4) (cap4 := cap4) R1.out B4.out ML.out (by rw [← LL.out]; exact hown4) h5)
                  clear hown4 hgr hat4
                  refine hK.out _ _ ?_ (fun hNew => ?_)
                  · first | exact hHeld | exact ⟨cell_go hHeld.1 ((Below.refl _ _).alloc (Nat.le_refl _) _), Lib.hid ((Hid.out hHeld.2).alloc (Hid.out hHeld.2).size _)⟩ | exact ⟨cell_go HC.out B4.out, B4⟩ | exact ⟨cell_go HC.out B3.out, B3⟩ | exact ⟨cell_go HC.out B2.out, B2⟩
                  clear hK K
                  replace hHeld := hNew
                  clear hNew
                  ((try simp only [Act.put]); (try simp only [List.setIfInBounds_toArray]); (try simp only [List.set_cons_succ]); (try simp only [List.set_cons_zero]))
                  refine anyZ_ready (rs := [21]) (by kernel_rfl) (by simp) ?_
                  refine AllZ.cons (o := { dst := some 91, op := Op.nilCheck (Operand.tmp 70), type := 0, pos := "ref.go:237", after := #[{ on := 0, ground := Ground.data }, { on := 0, ground := Ground.phase }, { on := 1, ground := Ground.phase }, { on := 2, ground := Ground.phase }, { on := 3, ground := Ground.phase }, { on := 4, ground := Ground.phase }, { on := 5, ground := Ground.phase }, { on := 6, ground := Ground.phase }, { on := 7, ground := Ground.phase }, { on := 8, ground := Ground.phase }, { on := 9, ground := Ground.phase }, { on := 10, ground := Ground.phase }, { on := 11, ground := Ground.phase }, { on := 12, ground := Ground.phase }, { on := 13, ground := Ground.phase }, { on := 14, ground := Ground.phase }, { on := 15, ground := Ground.phase }, { on := 16, ground := Ground.phase }, { on := 17, ground := Ground.phase }, { on := 18, ground := Ground.phase }, { on := 19, ground := Ground.phase }, { on := 20, ground := Ground.phase }], guard := none }) rfl (fun K hK => ?_) AllZ.nil
                  go_simp
                  refine hK.out _ _ ?_ (fun hNew => ?_)
                  · first | exact hHeld | exact ⟨cell_go hHeld.1 ((Below.refl _ _).alloc (Nat.le_refl _) _), Lib.hid ((Hid.out hHeld.2).alloc (Hid.out hHeld.2).size _)⟩ | exact ⟨cell_go HC.out B4.out, B4⟩ | exact ⟨cell_go HC.out B3.out, B3⟩ | exact ⟨cell_go HC.out B2.out, B2⟩
                  clear hK K
                  replace hHeld := hNew
                  clear hNew
                  ((try simp only [Act.put]); (try simp only [List.setIfInBounds_toArray]); (try simp only [List.set_cons_succ]); (try simp only [List.set_cons_zero]))
                  refine anyZ_take (i := 22) (oi := { dst := some 92, op := Op.fieldAddr 46 (Operand.tmp 91) 2, type := 0, pos := "ref.go:237", after := #[{ on := 21, ground := Ground.data }, { on := 0, ground := Ground.phase }, { on := 1, ground := Ground.phase }, { on := 2, ground := Ground.phase }, { on := 3, ground := Ground.phase }, { on := 4, ground := Ground.phase }, { on := 5, ground := Ground.phase }, { on := 6, ground := Ground.phase }, { on := 7, ground := Ground.phase }, { on := 8, ground := Ground.phase }, { on := 9, ground := Ground.phase }, { on := 10, ground := Ground.phase }, { on := 11, ground := Ground.phase }, { on := 12, ground := Ground.phase }, { on := 13, ground := Ground.phase }, { on := 14, ground := Ground.phase }, { on := 15, ground := Ground.phase }, { on := 16, ground := Ground.phase }, { on := 17, ground := Ground.phase }, { on := 18, ground := Ground.phase }, { on := 19, ground := Ground.phase }, { on := 20, ground := Ground.phase }], guard := none }) (v := ?_) rfl (by kernel_rfl) (by kernel_rfl) (by kernel_rfl) (by kernel_rfl) (fun _ _ _ h => h) (Or.inl ⟨by rfl, ?_⟩) (by assumption) ?_
                  rotate_left
                  · (intro w hSw; (try dsimp only at hSw); go_simp; try with_reducible rfl)
                  ((try simp only [Act.put]); (try simp only [List.setIfInBounds_toArray]); (try simp only [List.set_cons_succ]); (try simp only [List.set_cons_zero]))
                  refine anyZ_ready (rs := [23]) (by kernel_rfl) (by simp) ?_
                  refine AllZ.last (o := { dst := none, op := Op.store 44 (Operand.tmp 92) (Operand.tmp 90), type := 0, pos := "ref.go:237", after := #[{ on := 22, ground := Ground.data }, { on := 20, ground := Ground.data }, { on := 20, ground := Ground.chain }, { on := 0, ground := Ground.phase }, { on := 1, ground := Ground.phase }, { on := 2, ground := Ground.phase }, { on := 3, ground := Ground.phase }, { on := 4, ground := Ground.phase }, { on := 5, ground := Ground.phase }, { on := 6, ground := Ground.phase }, { on := 7, ground := Ground.phase }, { on := 8, ground := Ground.phase }, { on := 9, ground := Ground.phase }, { on := 10, ground := Ground.phase }, { on := 11, ground := Ground.phase }, { on := 12, ground := Ground.phase }, { on := 13, ground := Ground.phase }, { on := 14, ground := Ground.phase }, { on := 15, ground := Ground.phase }, { on := 16, ground := Ground.phase }, { on := 17, ground := Ground.phase }, { on := 18, ground := Ground.phase }, { on := 19, ground := Ground.phase }, { on := 20, ground := Ground.phase }], guard := none }) rfl (fun K hK => ?_)
                  go_simp
                  refine hK.out _ _ ?_
                  clear hK K
                  ((try simp only [Act.put]); (try simp only [List.setIfInBounds_toArray]); (try simp only [List.set_cons_succ]); (try simp only [List.set_cons_zero]))
                  refine anyZ_done (by kernel_rfl) ?_ _
                  refine NoPanic.normal ?_
                  go_wp2_with fail
                  all_goals go_meet
                  all_goals exact (R.out _ ⟨rfl, rfl, rfl, rfl⟩).elim (fun ⟨a5, c5, h5⟩ kk => ⟨a5, c5, h5, KW.out.trans kk (fun _ _ h => h)⟩)
                · skip
                  go_simp
                  refine hK.out _ _ ?_ (fun hNew => ?_)
                  · first | exact hHeld | exact ⟨cell_go hHeld.1 ((Below.refl _ _).alloc (Nat.le_refl _) _), Lib.hid ((Hid.out hHeld.2).alloc (Hid.out hHeld.2).size _)⟩ | exact ⟨cell_go HC.out B4.out, B4⟩ | exact ⟨cell_go HC.out B3.out, B3⟩ | exact ⟨cell_go HC.out B2.out, B2⟩
                  clear hK K
                  replace hHeld := hNew
                  clear hNew
                  ((try simp only [Act.put]); (try simp only [List.setIfInBounds_toArray]); (try simp only [List.set_cons_succ]); (try simp only [List.set_cons_zero]))
                  refine anyZ_ready (rs := [8]) (by kernel_rfl) (by simp) ?_
                  refine AllZ.cons (o := { dst := some 78, op := Op.call { callee := Callee.builtin Builtin.append, args := #[Operand.tmp 71, Operand.tmp 77], argTypes := #[44, 44] }, type := 44, pos := "ref.go:237", after := #[{ on := 1, ground := Ground.data }, { on := 7, ground := Ground.data }], guard := none }) rfl (fun K hK => ?_) AllZ.nil
                  refine step_append_at rfl (.tmp 71) (.tmp 77) 44 rfl wc.heap.size 48 i0 _ 2 24 Try.underlying44 hi0 hz0 hz1 hz2 rfl (by decide) _ _ _ (by first | (simp [Act.eval]; done) | (simp [Act.eval, Act.put]; done)) OB.out ao k co csA (by first | (simp [Act.eval]; done) | (simp [Act.eval, Act.put]; done)) LA.out (SA.out.below (Hid.out hHeld.2)).empty (SA.out.below (Hid.out hHeld.2)).news NA.out (by unfold maxLen; omega) (by omega) (Hid.out hHeld.2).size ?_
                  intro a2 cap2 w2 hown2 hgr hat2
                  have B2 := Lib.hid ((Hid.out hHeld.2).grown hgr (Hid.out hHeld.2).size (fun k h => (OB.out.lt k h).1))
                  have O2 := Lib.hid (show w2.ownsRow wc.heap.size 48 2 (.slice a2 (0 + k) cap2) k csA by rw [Nat.zero_add, List.nil_append] at hown2; rw [Nat.zero_add]; exact hown2)
                  have L2 := Lib.hid (show RowV (fun _ => True) w2 _ 1 1 2 [.int .u64 (num : Int), .string s] from ((LB.out).carry hgr.size (fun k hl hk => hgr.block k hl (fun e2 => by subst hk; simp [Value.ownBlock] at e2))).mono (fun _ _ _ => trivial))
                  clear hown2 hgr hat2
                  refine hK.out _ _ ?_ (fun hNew => ?_)
                  · first | exact hHeld | exact ⟨cell_go hHeld.1 ((Below.refl _ _).alloc (Nat.le_refl _) _), Lib.hid ((Hid.out hHeld.2).alloc (Hid.out hHeld.2).size _)⟩ | exact ⟨cell_go HC.out B4.out, B4⟩ | exact ⟨cell_go HC.out B3.out, B3⟩ | exact ⟨cell_go HC.out B2.out, B2⟩
                  clear hK K
                  replace hHeld := hNew
                  clear hNew
                  ((try simp only [Act.put]); (try simp only [List.setIfInBounds_toArray]); (try simp only [List.set_cons_succ]); (try simp only [List.set_cons_zero]))
                  refine anyZ_ready (rs := [13]) (by kernel_rfl) (by simp) ?_
                  refine AllZ.cons (o := { dst := some 83, op := Op.call { callee := Callee.builtin Builtin.append, args := #[Operand.tmp 78, Operand.tmp 82], argTypes := #[44, 44] }, type := 44, pos := "ref.go:237", after := #[{ on := 8, ground := Ground.data }, { on := 12, ground := Ground.data }, { on := 8, ground := Ground.chain }], guard := none }) rfl (fun K hK => ?_) AllZ.nil
                  refine step_append_at rfl (.tmp 78) (.tmp 82) 44 rfl wc.heap.size 48 i0 _ 2 24 Try.underlying44 hi0 hz0 hz1 hz2 rfl (by decide) _ _ _ (by first | (simp [Act.eval]; done) | (simp [Act.eval, Act.put]; done)) O2.out _ 1 1 [.int .u64 (num : Int), .string s] (by first | (simp [Act.eval]; done) | (simp [Act.eval, Act.put]; done)) (by simp) (fun e => by cases e) L2.out.news (by simp [Value.oneCell']) (by unfold maxLen; omega) (by omega) (Hid.out hHeld.2).size ?_
                  intro a3 cap3 w3 hown3 hgr hat3
                  have B3 := Lib.hid ((Hid.out hHeld.2).grown hgr (Hid.out hHeld.2).size (fun k h => (O2.out.lt k h).1))
                  have O4 := Lib.hid hown3
                  clear hown3 hgr hat3
                  refine hK.out _ _ ?_ (fun hNew => ?_)
                  · first | exact hHeld | exact ⟨cell_go hHeld.1 ((Below.refl _ _).alloc (Nat.le_refl _) _), Lib.hid ((Hid.out hHeld.2).alloc (Hid.out hHeld.2).size _)⟩ | exact ⟨cell_go HC.out B4.out, B4⟩ | exact ⟨cell_go HC.out B3.out, B3⟩ | exact ⟨cell_go HC.out B2.out, B2⟩
                  clear hK K
                  replace hHeld := hNew
                  clear hNew
                  ((try simp only [Act.put]); (try simp only [List.setIfInBounds_toArray]); (try simp only [List.set_cons_succ]); (try simp only [List.set_cons_zero]))
                  refine anyZ_ready (rs := [20]) (by kernel_rfl) (by simp) ?_
                  refine AllZ.cons (o := { dst := some 90, op := Op.call { callee := Callee.builtin Builtin.append, args := #[Operand.tmp 83, Operand.tmp 89], argTypes := #[44, 44] }, type := 44, pos := "ref.go:237", after := #[{ on := 13, ground := Ground.data }, { on := 19, ground := Ground.data }, { on := 13, ground := Ground.chain }], guard := none }) rfl (fun K hK => ?_) AllZ.nil
                  refine step_append_at rfl (.tmp 83) (.tmp 89) 44 rfl wc.heap.size 48 i0 _ 2 24 Try.underlying44 hi0 hz0 hz1 hz2 rfl (by decide) _ _ _ (by first | (simp [Act.eval]; done) | (simp [Act.eval, Act.put]; done)) O4.out (if co = k then ao else Option.map (fun x => x.add (k * 2)) ao) (n - k) (co - k) csD (by first | (simp [Act.eval]; done) | (simp [Act.eval, Act.put]; done)) LD.out (SD.out.below (Hid.out hHeld.2)).empty (SD.out.below (Hid.out hHeld.2)).news ND.out (by unfold maxLen; omega) (by omega) (Hid.out hHeld.2).size ?_
                  intro a4 cap4 w4 hown4 hgr hat4
                  have B4 := Lib.hid ((Hid.out hHeld.2).grown hgr (Hid.out hHeld.2).size (fun k h => (O4.out.lt k h).1))
                  have f4 : w4.frozen? ⟨r, 2, none⟩ = false := (World.frozen?_of_block (a := ⟨r, 2, none⟩) (B4.out.block r hrW)).trans (R1.out.c.fz 2)
                  have R := Lib.hid (fun w5 h5 => rd_put (w5 := w5) (a4 := a4) (cap4 := cap4) R1.out B4.out ML.out (by rw [← LL.out]; exact hown4) h5)
                  clear hown4 hgr hat4
                  refine hK.out _ _ ?_ (fun hNew => ?_)
                  · first | exact hHeld | exact ⟨cell_go hHeld.1 ((Below.refl _ _).alloc (Nat.le_refl _) _), Lib.hid ((Hid.out hHeld.2).alloc (Hid.out hHeld.2).size _)⟩ | exact ⟨cell_go HC.out B4.out, B4⟩ | exact ⟨cell_go HC.out B3.out, B3⟩ | exact ⟨cell_go HC.out B2.out, B2⟩
                  clear hK K
                  replace hHeld := hNew
                  clear hNew
                  ((try simp only [Act.put]); (try simp only [List.setIfInBounds_toArray]); (try simp only [List.set_cons_succ]); (try simp only [List.set_cons_zero]))
                  refine anyZ_ready (rs := [21]) (by kernel_rfl) (by simp) ?_
                  refine AllZ.cons (o := { dst := some 91, op := Op.nilCheck (Operand.tmp 70), type := 0, pos := "ref.go:237", after := #[{ on := 0, ground := Ground.data }, { on := 0, ground := Ground.phase }, { on := 1, ground := Ground.phase }, { on := 2, ground := Ground.phase }, { on := 3, ground := Ground.phase }, { on := 4, ground := Ground.phase }, { on := 5, ground := Ground.phase }, { on := 6, ground := Ground.phase }, { on := 7, ground := Ground.phase }, { on := 8, ground := Ground.phase }, { on := 9, ground := Ground.phase }, { on := 10, ground := Ground.phase }, { on := 11, ground := Ground.phase }, { on := 12, ground := Ground.phase }, { on := 13, ground := Ground.phase }, { on := 14, ground := Ground.phase }, { on := 15, ground := Ground.phase }, { on := 16, ground := Ground.phase }, { on := 17, ground := Ground.phase }, { on := 18, ground := Ground.phase }, { on := 19, ground := Ground.phase }, { on := 20, ground := Ground.phase }], guard := none }) rfl (fun K hK => ?_) AllZ.nil
                  go_simp
                  refine hK.out _ _ ?_ (fun hNew => ?_)
                  · first | exact hHeld | exact ⟨cell_go hHeld.1 ((Below.refl _ _).alloc (Nat.le_refl _) _), Lib.hid ((Hid.out hHeld.2).alloc (Hid.out hHeld.2).size _)⟩ | exact ⟨cell_go HC.out B4.out, B4⟩ | exact ⟨cell_go HC.out B3.out, B3⟩ | exact ⟨cell_go HC.out B2.out, B2⟩
                  clear hK K
                  replace hHeld := hNew
                  clear hNew
                  ((try simp only [Act.put]); (try simp only [List.setIfInBounds_toArray]); (try simp only [List.set_cons_succ]); (try simp only [List.set_cons_zero]))
                  refine anyZ_take (i := 22) (oi := { dst := some 92, op := Op.fieldAddr 46 (Operand.tmp 91) 2, type := 0, pos := "ref.go:237", after := #[{ on := 21, ground := Ground.data }, { on := 0, ground := Ground.phase }, { on := 1, ground := Ground.phase }, { on := 2, ground := Ground.phase }, { on := 3, ground := Ground.phase }, { on := 4, ground := Ground.phase }, { on := 5, ground := Ground.phase }, { on := 6, ground := Ground.phase }, { on := 7, ground := Ground.phase }, { on := 8, ground := Ground.phase }, { on := 9, ground := Ground.phase }, { on := 10, ground := Ground.phase }, { on := 11, ground := Ground.phase }, { on := 12, ground := Ground.phase }, { on := 13, ground := Ground.phase }, { on := 14, ground := Ground.phase }, { on := 15, ground := Ground.phase }, { on := 16, ground := Ground.phase }, { on := 17, ground := Ground.phase }, { on := 18, ground := Ground.phase }, { on := 19, ground := Ground.phase }, { on := 20, ground := Ground.phase }], guard := none }) (v := ?_) rfl (by kernel_rfl) (by kernel_rfl) (by kernel_rfl) (by kernel_rfl) (fun _ _ _ h => h) (Or.inl ⟨by rfl, ?_⟩) (by assumption) ?_
                  rotate_left
                  · (intro w hSw; (try dsimp only at hSw); go_simp; try with_reducible rfl)
                  ((try simp only [Act.put]); (try simp only [List.setIfInBounds_toArray]); (try simp only [List.set_cons_succ]); (try simp only [List.set_cons_zero]))
                  refine anyZ_ready (rs := [23]) (by kernel_rfl) (by simp) ?_
                  refine AllZ.last (o := { dst := none, op := Op.store 44 (Operand.tmp 92) (Operand.tmp 90), type := 0, pos := "ref.go:237", after := #[{ on := 22, ground := Ground.data }, { on := 20, ground := Ground.data }, { on := 20, ground := Ground.chain }, { on := 0, ground := Ground.phase }, { on := 1, ground := Ground.phase }, { on := 2, ground := Ground.phase }, { on := 3, ground := Ground.phase }, { on := 4, ground := Ground.phase }, { on := 5, ground := Ground.phase }, { on := 6, ground := Ground.phase }, { on := 7, ground := Ground.phase }, { on := 8, ground := Ground.phase }, { on := 9, ground := Ground.phase }, { on := 10, ground := Ground.phase }, { on := 11, ground := Ground.phase }, { on := 12, ground := Ground.phase }, { on := 13, ground := Ground.phase }, { on := 14, ground := Ground.phase }, { on := 15, ground := Ground.phase }, { on := 16, ground := Ground.phase }, { on := 17, ground := Ground.phase }, { on := 18, ground := Ground.phase }, { on := 19, ground := Ground.phase }, { on := 20, ground := Ground.phase }], guard := none }) rfl (fun K hK => ?_)
                  go_simp
                  refine hK.out _ _ ?_
                  clear hK K
                  ((try simp only [Act.put]); (try simp only [List.setIfInBounds_toArray]); (try simp only [List.set_cons_succ]); (try simp only [List.set_cons_zero]))
                  refine anyZ_done (by kernel_rfl) ?_ _
                  refine NoPanic.normal ?_
                  go_wp2_with fail
                  all_goals go_meet
                  all_goals exact (R.out _ ⟨rfl, rfl, rfl, rfl⟩).elim (fun ⟨a5, c5, h5⟩ kk => ⟨a5, c5, h5, KW.out.trans kk (fun _ _ h => h)⟩)
              · skip
                go_simp
                refine hK.out _ _ ?_ (fun hNew => ?_)
                · first | exact hHeld | exact ⟨cell_go hHeld.1 ((Below.refl _ _).alloc (Nat.le_refl _) _), Lib.hid ((Hid.out hHeld.2).alloc (Hid.out hHeld.2).size _)⟩ | exact ⟨cell_go HC.out B4.out, B4⟩ | exact ⟨cell_go HC.out B3.out, B3⟩ | exact ⟨cell_go HC.out B2.out, B2⟩
                clear hK K
                replace hHeld := hNew
                clear hNew
                ((try simp only [Act.put]); (try simp only [List.setIfInBounds_toArray]); (try simp only [List.set_cons_succ]); (try simp only [List.set_cons_zero]))
                refine anyZ_ready (rs := [1]) (by kernel_rfl) (by simp) ?_
                refine AllZ.cons (o := { dst := some 71, op := Op.buildSlice 44 0 #[], type := 44, pos := "ref.go:237", after := #[], guard := none }) rfl (fun K hK => ?_) AllZ.nil
                go_simp
                refine hK.out _ _ ?_ (fun hNew => ?_)
                · first | exact hHeld | exact ⟨cell_go hHeld.1 ((Below.refl _ _).alloc (Nat.le_refl _) _), Lib.hid ((Hid.out hHeld.2).alloc (Hid.out hHeld.2).size _)⟩ | exact ⟨cell_go HC.out B4.out, B4⟩ | exact ⟨cell_go HC.out B3.out, B3⟩ | exact ⟨cell_go HC.out B2.out, B2⟩
                clear hK K
                replace hHeld := hNew
                clear hNew
                ((try simp only [Act.put]); (try simp only [List.setIfInBounds_toArray]); (try simp only [List.set_cons_succ]); (try simp only [List.set_cons_zero]))
                refine anyZ_ready (rs := [8]) (by kernel_rfl) (by simp) ?_
                refine AllZ.cons (o := { dst := some 78, op := Op.call { callee := Callee.builtin Builtin.append, args := #[Operand.tmp 71, Operand.tmp 77], argTypes := #[44, 44] }, type := 44, pos := "ref.go:237", after := #[{ on := 1, ground := Ground.data }, { on := 7, ground := Ground.data }], guard := none }) rfl (fun K hK => ?_) AllZ.nil
                refine step_append_at rfl (.tmp 71) (.tmp 77) 44 rfl wc.heap.size 48 i0 _ 2 24 Try.underlying44 hi0 hz0 hz1 hz2 rfl (by decide) _ _ _ (by first | (simp [Act.eval]; done) | (simp [Act.eval, Act.put]; done)) OC.out ao k co csA (by first | (simp [Act.eval]; done) | (simp [Act.eval, Act.put]; done)) LA.out (SA.out.below (Hid.out hHeld.2)).empty (SA.out.below (Hid.out hHeld.2)).news NA.out (by unfold maxLen; omega) (by omega) (Hid.out hHeld.2).size ?_
                intro a2 cap2 w2 hown2 hgr hat2
                have B2 := Lib.hid ((Hid.out hHeld.2).grown hgr (Hid.out hHeld.2).size (fun k h => (OC.out.lt k h).1))
                have O2 := Lib.hid (show w2.ownsRow wc.heap.size 48 2 (.slice a2 (0 + k) cap2) k csA by rw [Nat.zero_add, List.nil_append] at hown2; rw [Nat.zero_add]; exact hown2)
                have L2 := Lib.hid (show RowV (fun _ => True) w2 _ 1 1 2 [.int .u64 (num : Int), .string s] from ((LC.out).carry hgr.size (fun k hl hk => hgr.block k hl (fun e2 => by subst hk; simp [Value.ownBlock] at e2))).mono (fun _ _ _ => trivial))
                clear hown2 hgr hat2
                refine hK.out _ _ ?_ (fun hNew => ?_)
                · first | exact hHeld | exact ⟨cell_go hHeld.1 ((Below.refl _ _).alloc (Nat.le_refl _) _), Lib.hid ((Hid.out hHeld.2).alloc (Hid.out hHeld.2).size _)⟩ | exact ⟨cell_go HC.out B4.out, B4⟩ | exact ⟨cell_go HC.out B3.out, B3⟩ | exact ⟨cell_go HC.out B2.out, B2⟩
                clear hK K
                replace hHeld := hNew
                clear hNew
                ((try simp only [Act.put]); (try simp only [List.setIfInBounds_toArray]); (try simp only [List.set_cons_succ]); (try simp only [List.set_cons_zero]))
                refine anyZ_ready (rs := [13]) (by kernel_rfl) (by simp) ?_
                refine AllZ.cons (o := { dst := some 83, op := Op.call { callee := Callee.builtin Builtin.append, args := #[Operand.tmp 78, Operand.tmp 82], argTypes := #[44, 44] }, type := 44, pos := "ref.go:237", after := #[{ on := 8, ground := Ground.data }, { on := 12, ground := Ground.data }, { on := 8, ground := Ground.chain }], guard := none }) rfl (fun K hK => ?_) AllZ.nil
                refine step_append_at rfl (.tmp 78) (.tmp 82) 44 rfl wc.heap.size 48 i0 _ 2 24 Try.underlying44 hi0 hz0 hz1 hz2 rfl (by decide) _ _ _ (by first | (simp [Act.eval]; done) | (simp [Act.eval, Act.put]; done)) O2.out _ 1 1 [.int .u64 (num : Int), .string s] (by first | (simp [Act.eval]; done) | (simp [Act.eval, Act.put]; done)) (by simp) (fun e => by cases e) L2.out.news (by simp [Value.oneCell']) (by unfold maxLen; omega) (by omega) (Hid.out hHeld.2).size ?_
                intro a3 cap3 w3 hown3 hgr hat3
                have B3 := Lib.hid ((Hid.out hHeld.2).grown hgr (Hid.out hHeld.2).size (fun k h => (O2.out.lt k h).1))
                have O4 := Lib.hid hown3
                clear hown3 hgr hat3
                refine hK.out _ _ ?_ (fun hNew => ?_)
                · first | exact hHeld | exact ⟨cell_go hHeld.1 ((Below.refl _ _).alloc (Nat.le_refl _) _), Lib.hid ((Hid.out hHeld.2).alloc (Hid.out hHeld.2).size _)⟩ | exact ⟨cell_go HC.out B4.out, B4⟩ | exact ⟨cell_go HC.out B3.out, B3⟩ | exact ⟨cell_go HC.out B2.out, B2⟩
                clear hK K
                replace hHeld := hNew
                clear hNew
                ((try simp only [Act.put]); (try simp only [List.setIfInBounds_toArray]); (try simp only [List.set_cons_succ]); (try simp only [List.set_cons_zero]))
                refine anyZ_ready (rs := [20]) (by kernel_rfl) (by simp) ?_
                refine AllZ.cons (o := { dst := some 90, op := Op.call { callee := Callee.builtin Builtin.append, args := #[Operand.tmp 83, Operand.tmp 89], argTypes := #[44, 44] }, type := 44, pos := "ref.go:237", after := #[{ on := 13, ground := Ground.data }, { on := 19, ground := Ground.data }, { on := 13, ground := Ground.chain }], guard := none }) rfl (fun K hK => ?_) AllZ.nil
                refine step_append_at rfl (.tmp 83) (.tmp 89) 44 rfl wc.heap.size 48 i0 _ 2 24 Try.underlying44 hi0 hz0 hz1 hz2 rfl (by decide) _ _ _ (by first | (simp [Act.eval]; done) | (simp [Act.eval, Act.put]; done)) O4.out (if co = k then ao else Option.map (fun x => x.add (k * 2)) ao) (n - k) (co - k) csD (by first | (simp [Act.eval]; done) | (simp [Act.eval, Act.put]; done)) LD.out (SD.out.below (Hid.out hHeld.2)).empty (SD.out.below (Hid.out hHeld.2)).news ND.out (by unfold maxLen; omega) (by omega) (Hid.out hHeld.2).size ?_
                intro a4 cap4 w4 hown4 hgr hat4
                have B4 := Lib.hid ((Hid.out hHeld.2).grown hgr (Hid.out hHeld.2).size (fun k h => (O4.out.lt k h).1))
                have f4 : w4.frozen? ⟨r, 2, none⟩ = false := (World.frozen?_of_block (a := ⟨r, 2, none⟩) (B4.out.block r hrW)).trans (R1.out.c.fz 2)
                have R := Lib.hid (fun w5 h5 => rd_put (w5 := w5) (a4 := a4) (cap4 := cap4) R1.out B4.out ML.out (by rw [← LL.out]; exact hown4) h5)
                clear hown4 hgr hat4
                refine hK.out _ _ ?_ (fun hNew => ?_)
                · first | exact hHeld | exact ⟨cell_go hHeld.1 ((Below.refl _ _).alloc (Nat.le_refl _) _), Lib.hid ((Hid.out hHeld.2).alloc (Hid.out hHeld.2).size _)⟩ | exact ⟨cell_go HC.out B4.out, B4⟩ | exact ⟨cell_go HC.out B3.out, B3⟩ | exact ⟨cell_go HC.out B2.out, B2⟩
                clear hK K
                replace hHeld := hNew
                clear hNew
                ((try simp only [Act.put]); (try simp only [List.setIfInBounds_toArray]); (try simp only [List.set_cons_succ]); (try simp only [List.set_cons_zero]))
                refine anyZ_ready (rs := [21]) (by kernel_rfl) (by simp) ?_
                refine AllZ.cons (o := { dst := some 91, op := Op.nilCheck (Operand.tmp 70), type := 0, pos := "ref.go:237", after := #[{ on := 0, ground := Ground.data }, { on := 0, ground := Ground.phase }, { on := 1, ground := Ground.phase }, { on := 2, ground := Ground.phase }, { on := 3, ground := Ground.phase }, { on := 4, ground := Ground.phase }, { on := 5, ground := Ground.phase }, { on := 6, ground := Ground.phase }, { on := 7, ground := Ground.phase }, { on := 8, ground := Ground.phase }, { on := 9, ground := Ground.phase }, { on := 10, ground := Ground.phase }, { on := 11, ground := Ground.phase }, { on := 12, ground := Ground.phase }, { on := 13, ground := Ground.phase }, { on := 14, ground := Ground.phase }, { on := 15, ground := Ground.phase }, { on := 16, ground := Ground.phase }, { on := 17, ground := Ground.phase }, { on := 18, ground := Ground.phase }, { on := 19, ground := Ground.phase }, { on := 20, ground := Ground.phase }], guard := none }) rfl (fun K hK => ?_) AllZ.nil
                go_simp
                refine hK.out _ _ ?_ (fun hNew => ?_)
                · first | exact hHeld | exact ⟨cell_go hHeld.1 ((Below.refl _ _).alloc (Nat.le_refl _) _), Lib.hid ((Hid.out hHeld.2).alloc (Hid.out hHeld.2).size _)⟩ | exact ⟨cell_go HC.out B4.out, B4⟩ | exact ⟨cell_go HC.out B3.out, B3⟩ | exact ⟨cell_go HC.out B2.out, B2⟩
                clear hK K
                replace hHeld := hNew
                clear hNew
                ((try simp only [Act.put]); (try simp only [List.setIfInBounds_toArray]); (try simp only [List.set_cons_succ]); (try simp only [List.set_cons_zero]))
                refine anyZ_take (i := 22) (oi := { dst := some 92, op := Op.fieldAddr 46 (Operand.tmp 91) 2, type := 0, pos := "ref.go:237", after := #[{ on := 21, ground := Ground.data }, { on := 0, ground := Ground.phase }, { on := 1, ground := Ground.phase }, { on := 2, ground := Ground.phase }, { on := 3, ground := Ground.phase }, { on := 4, ground := Ground.phase }, { on := 5, ground := Ground.phase }, { on := 6, ground := Ground.phase }, { on := 7, ground := Ground.phase }, { on := 8, ground := Ground.phase }, { on := 9, ground := Ground.phase }, { on := 10, ground := Ground.phase }, { on := 11, ground := Ground.phase }, { on := 12, ground := Ground.phase }, { on := 13, ground := Ground.phase }, { on := 14, ground := Ground.phase }, { on := 15, ground := Ground.phase }, { on := 16, ground := Ground.phase }, { on := 17, ground := Ground.phase }, { on := 18, ground := Ground.phase }, { on := 19, ground := Ground.phase }, { on := 20, ground := Ground.phase }], guard := none }) (v := ?_) rfl (by kernel_rfl) (by kernel_rfl) (by kernel_rfl) (by kernel_rfl) (fun _ _ _ h => h) (Or.inl ⟨by rfl, ?_⟩) (by assumption) ?_
                rotate_left
                · (intro w hSw; (try dsimp only at hSw); go_simp; try with_reducible rfl)
                ((try simp only [Act.put]); (try simp only [List.setIfInBounds_toArray]); (try simp only [List.set_cons_succ]); (try simp only [List.set_cons_zero]))
                refine anyZ_ready (rs := [23]) (by kernel_rfl) (by simp) ?_
                refine AllZ.last (o := { dst := none, op := Op.store 44 (Operand.tmp 92) (Operand.tmp 90), type := 0, pos := "ref.go:237", after := #[{ on := 22, ground := Ground.data }, { on := 20, ground := Ground.data }, { on := 20, ground := Ground.chain }, { on := 0, ground := Ground.phase }, { on := 1, ground := Ground.phase }, { on := 2, ground := Ground.phase }, { on := 3, ground := Ground.phase }, { on := 4, ground := Ground.phase }, { on := 5, ground := Ground.phase }, { on := 6, ground := Ground.phase }, { on := 7, ground := Ground.phase }, { on := 8, ground := Ground.phase }, { on := 9, ground := Ground.phase }, { on := 10, ground := Ground.phase }, { on := 11, ground := Ground.phase }, { on := 12, ground := Ground.phase }, { on := 13, ground := Ground.phase }, { on := 14, ground := Ground.phase }, { on := 15, ground := Ground.phase }, { on := 16, ground := Ground.phase }, { on := 17, ground := Ground.phase }, { on := 18, ground := Ground.phase }, { on := 19, ground := Ground.phase }, { on := 20, ground := Ground.phase }], guard := none }) rfl (fun K hK => ?_)
                go_simp
                refine hK.out _ _ ?_
                clear hK K
                ((try simp only [Act.put]); (try simp only [List.setIfInBounds_toArray]); (try simp only [List.set_cons_succ]); (try simp only [List.set_cons_zero]))
                refine anyZ_done (by kernel_rfl) ?_ _
                refine NoPanic.normal ?_
                go_wp2_with fail
                all_goals go_meet
                all_goals exact (R.out _ ⟨rfl, rfl, rfl, rfl⟩).elim (fun ⟨a5, c5, h5⟩ kk => ⟨a5, c5, h5, KW.out.trans kk (fun _ _ h => h)⟩)
            case rest =>
              obtain ⟨a2, cap2, hR2, hK2⟩ := hcut
              have R2 := Lib.hid hR2
              have K2 := Lib.hid hK2
              have hMN := hR2.size
              have hWN := hK2.size
              obtain ⟨N1, hN1⟩ : ∃ N1, N1 = wc.heap.size := ⟨_, rfl⟩
              rw [← hN1] at hMN hWN
              have R3 := Lib.hid (show RdV (fun k => M ≤ k ∧ k < N1) wc r M S.win S.next a2 cap2 (ins num s S.held) from ⟨hR2.c, hR2.rM, hR2.size, hR2.row.mono (fun k hk h => ⟨h, by rw [hN1]; exact hk⟩)⟩)
              obtain ⟨L0, hL0⟩ : ∃ L0, L0 = ins num s S.held := ⟨_, rfl⟩
              rw [← hL0] at R3 UU
              have EL := Lib.hid hL0
              have hl16 : L0.length ≤ 16 := by rw [hL0, ins_len]; have := HS.out.len.1; omega
              obtain ⟨i1, hi1, hy0, hy1, hy2⟩ := info_g Try.infoSs
              have hN1' : N1 ≤ wc.heap.size := by omega
              clear hR2 hK2 R2 R1 c0 c1 c2 hU0 HI hL0
              go_wp2_with fail
              go_loopw [9] (fun v wx => RgRel W r M S.win S.next (S.next + S.win) N1 L0 v wx ∧ N1 ≤ wx.heap.size) (fun _ wx => (S.next + S.win) - (match wx.cell? ⟨r, 1, none⟩ with | some v => (intOf v).toNat | none => 0))
              case atStart => exact ⟨⟨S.next, L0, [], a2, cap2, World.ownsRow_nil .., R3.out, UU.out, by omega, by simp, rfl, K2.out⟩, hN1'⟩
              case round =>
                obtain ⟨⟨n2, L2, ss, a3, cap3, hO, hR, hU, hnh, hg, hn2, hK⟩, hNw⟩ := hrel
                obtain ⟨x0, x1, x2⟩ := hR.cells
                obtain ⟨av, cv, rfl⟩ := own_form hO
                have BK : ∀ k, Below wr.heap.size wr (wr.drewN k) := fun k => ⟨rfl, rfl, rfl, Nat.le_refl _, fun _ _ => rfl⟩
                have hlen : ss.length + L2.length ≤ 16 := by
                  have h1 := congrArg (fun z : List ByteArray × List (Nat × ByteArray) => z.1.length + z.2.length) hg
                  simp only [List.length_append] at h1
                  have h2 := (goN_up UU.out (by omega)).2.2
                  have h3 := (goN_up hU hnh).2.2
                  omega
                have DN := Lib.hid (fun (k : Nat) (hz : goN n2 L2 = ([], L2)) => rg_done (v := .slice av ss.length cv) HM.out EL.out rfl rfl (own_below hO (BK k)) (hR.drewN k) hg hn2 (hK.drewN k) hz)
                have O := Lib.hid hO
                have R := Lib.hid hR
                have U := Lib.hid hU
                have G := Lib.hid hg
                have K := Lib.hid hK
                have E2 := Lib.hid hn2
                have ML := R.out.row.max
                unfold maxLen at ML
                have hnb : n2 ≤ 1000000 := by have := HS.out.next; omega
                cases L2 with
                | nil =>
                  have DN2 := Lib.hid (fun k => DN.out k rfl)
                  clear hO hR hU hg hK hn2 DN
                  go_wp2_with fail
                  go_quiet (fail)
                  go_wp2_with fail
                  go_ret2
                  exact DN2.out _
                | cons x t =>
                  obtain ⟨b, off, rfl, hb, hbA, k0⟩ := R.out.row.cell 0 (uN x.1) rfl
                  obtain ⟨b', off', e', hb', -, k1⟩ := R.out.row.cell 1 (.string x.2) rfl
                  cases e'
                  unfold uN at k0
                  rw [Nat.add_zero] at k0
                  obtain ⟨tl, htl⟩ : ∃ tl, tl = t.length := ⟨_, rfl⟩
                  have TL := Lib.hid htl
                  have hfit3 := R.out.row.fit
                  rw [List.length_cons, ← htl] at x2 hfit3
                  rw [List.length_cons] at hlen
                  have g0 : decide (((tl + 1 : Nat) : Int) > 0) = true := decide_eq_true (by omega)
                  by_cases hx : x.1 = n2
                  · obtain ⟨xn, xb⟩ := x
                    simp only at hx
                    subst hx
                    have hlt : xn < S.next + S.win := (U.out.2 (xn, xb) (List.mem_cons_self ..)).2
                    obtain ⟨A, hA⟩ : ∃ A : Option Addr, (if cap3 = 1 then (some ⟨b, off, none⟩ : Option Addr) else some ⟨b, off + 2, none⟩) = A := ⟨_, rfl⟩
                    have HA := Lib.hid (show (if cap3 = 1 then (some ⟨b, off, none⟩ : Option Addr) else (some (⟨b, off, none⟩ : Addr)).map (·.add (1 * 2))) = A by rw [← hA]; simp [Addr.add_lit])
                    have wn : IntKind.u64.wrap ((xn : Int) + 1) = ((xn + 1 : Nat) : Int) := by rw [wrapU (by omega)]; omega
                    have e0 : ((xn : Int) == (xn : Int)) = true := by simp
                    have fr : ∀ o, wr.frozen? ⟨r, o, none⟩ = false := fun o => R.out.c.fz o
                    obtain ⟨nS, hnS⟩ : ∃ nS, nS = ss.length := ⟨_, rfl⟩
                    have NS := Lib.hid hnS
                    have rN : r < N1 := by have := R.out.rM; omega
                    have j1 : (1 : Int) ≤ (tl : Int) + 1 := by omega
                    have j2 : (tl : Int) + 1 ≤ (cap3 : Int) := by omega
                    have j3 : 1 ≤ cap3 := by omega
                    have j4 : tl + 1 ≤ cap3 := by omega
                    clear hO hR hU hg hK hn2 DN htl g0
                    go_upto_region 10 with fail
                    go_quiet (fail)
                    have R4 := Lib.hid (R.out.drewN nq)
                    have O4 := Lib.hid (own_below O.out (BK nq))
                    have K4 := Lib.hid (K.out.drewN nq)
                    have z0 : (wr.drewN nq).cell? ⟨b, off, none⟩ = some (.int .u64 (xn : Int)) := k0
                    have z1 : (wr.drewN nq).cell? ⟨b, off + 1, none⟩ = some (.string xb) := k1
                    have z2 : (wr.drewN nq).cell? ⟨r, 1, none⟩ = some (.int .u64 (xn : Int)) := x1
                    have z3 : (wr.drewN nq).cell? ⟨r, 2, none⟩ = some (.slice (some ⟨b, off, none⟩) (tl + 1) cap3) := x2
                    have zN : N1 ≤ (wr.drewN nq).heap.size := hNw
                    have MC := Lib.hid x1
                    clear k0 k1 x0 x1 x2 fr BK R O K
                    generalize wr.drewN nq = wd at *
                    rw [← hnS] at O4 ⊢ hlen
                    go_wp2_with (at_builtin; refine wpList_append_at rfl (.tmp 113) (.tmp 121) 35 rfl N1 9 i1 _ 1 16 Try.underlying35 hi1 hy0 hy1 hy2 rfl (by decide) _ _ _ rfl (World.ownsRow.alloc O4.out _) (some ⟨wd.heap.size, 0, none⟩) 1 1 [.string xb] rfl rfl (fun e => by cases e) (fun ad e => by cases e; exact World.news_of_block (heap_alloc_new _ _)) (by simp [Value.oneCell']) (by unfold maxLen; omega) (by omega) (by simp; omega) ?_; intro v6 w6 hown6 hgr6 hat6; obtain ⟨g6, c6, rfl⟩ := ownsRow_succ hown6; have k6 : Keep (fun k => (Value.slice av nS cv).ownBlock = some k) wd w6 := ((Keep.refl _ wd).alloc _).grown hgr6 (fun k h => Or.inl h); have C6 := R4.out.c.keep k6 (fun f => by have := (O4.out.lt r f).1; omega); have v1 : w6.cell? ⟨r, 1, none⟩ = some (.int .u64 (xn : Int)) := C6.c 1 (by decide); have v2 : w6.cell? ⟨r, 2, none⟩ = some (.slice (some ⟨b, off, none⟩) (tl + 1) cap3) := (by rw [C6.c 2 (by decide), TL.out]; rfl); have f1 : w6.frozen? ⟨r, 1, none⟩ = false := C6.fz 1; have f2 : w6.frozen? ⟨r, 2, none⟩ = false := C6.fz 2; have SZ := Lib.hid (show N1 ≤ w6.heap.size from Nat.le_trans zN k6.size); have RS := Lib.hid (fun w4 h4 => rg_step (w4 := w4) (o := .cells #[.string xb] 9) (by rw [← hnS]; exact O4.out) R4.out hMN hWN U.out G.out E2.out K4.out (by rw [← hnS]; exact hown6) (by rw [← hnS]; exact hgr6) HA.out (by rw [← TL.out]; exact h4)); have hnS2 := hnS; clear hnS; rw [← hnS2] at RS; clear hnS2 hown6 hgr6 hat6 k6 C6)
                    go_roundw
                    case rel =>
                      refine ⟨RS.out _ ⟨rfl, rfl, rfl, rfl⟩, ?_⟩
                      have := SZ.out
                      simpa [World.setCell] using this
                    case measure =>
                      rw [World.cell?_setCell_same _ ⟨r, 1, none⟩ _ ((cell_other (i := 1) (j := 2) (by decide)).trans v1), MC.out]
                      simp only [intOf]
                      omega
                  · have ne : (((x.1 : Nat) : Int) == (n2 : Int)) = false := by simp; omega
                    have DN2 := Lib.hid (fun k => DN.out k (by rw [goN, if_neg hx]))
                    clear hO hR hU hg hK hn2 DN hx htl
                    generalize x.1 = z at *
                    go_wp2_with fail
                    go_quiet (fail)
                    go_wp2_with fail
                    go_ret2
                    exact DN2.out _
    · have d3 : decide ((d : Int) ≥ (S.win : Int)) = true := decide_eq_true (by omega)
      have d4 : decide (S.win ≤ d) = true := decide_eq_true (by omega)
      have hm : S.may num = false := by
        cases e : S.may num
        · rfl
        · have := (Dk.may_is.1 e).2.1; omega
      have NO2 := Lib.hid (fun k => NO.out k hm)
      rw [hm] at NO2
      clear NO h1 h2 hm hd
      go_wp2_with fail
      go_quiet (fail)
      go_wp2_with fail
      go_ret2
      exact NO2.out _
end
end Go.Proofs.Ythipdinpbihhmaa
