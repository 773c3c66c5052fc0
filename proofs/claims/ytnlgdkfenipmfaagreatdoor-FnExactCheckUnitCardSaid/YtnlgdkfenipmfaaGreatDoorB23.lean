/-
  SpecExprA
-/
import Derived.Test.YtnlgdkfenipmfaaGreatDoorB22
namespace Go.Proofs.YtnlgdkfenipmfaaGreatDoor
namespace SpecChk
open Go.RowKit
open Strs Tree Go.Proofs.YtnlgdkfenipmfaaGreatDoor.Data Chk
set_option linter.unusedVariables false
set_option maxRecDepth 10000 in
set_option maxHeartbeats 16000000 in
theorem expr_5 (cs : List C) (own : Bool) (hN : cs.length <= 1048576) (e : E) (ihk : ∀ x, x ∈ e.kids -> ExOk cs own x) (ihg : ∀ x, x ∈ e.kids -> ∀ y, y ∈ x.kids -> ExOk cs own y) (h5 : e.kind = 5) : ExOk cs own e := by
  intro w U v1 v2 v3 vn vk vars fixed fields hu t1 f1 t2 f2 t3 f3 hn hwt hln
  obtain ⟨k, t, n, ns, ks⟩ := e
  replace h5 : k = 5 := h5
  replace ihk : ∀ x, x ∈ ks -> ExOk cs own x := ihk
  replace ihg : ∀ x, x ∈ ks -> ∀ y, y ∈ x.kids -> ExOk cs own y := ihg
  simp only [E.kind, E.text, E.num]
  have hn0 := zat.1 hn
  simp only [E.kind, E.text, E.num, E.names, E.kids] at hn0
  obtain ⟨hk1, hk2, htm, htx, hks⟩ := hn0
  have hwt' := hwt
  rw [Tree.weight] at hwt'
  obtain ⟨va, vc, rfl, -⟩ := id htx
  obtain ⟨ka, kc, rfl, ⟨hkc, hkm⟩, hkid⟩ := kids_see hks
  obtain ⟨a1, c1, rfl, -⟩ := id t1
  obtain ⟨a2, c2, rfl, -⟩ := id t2
  obtain ⟨a3, c3, rfl, -⟩ := id t3
  have hts : t.size <= 1048576 := by omega
  unfold maxLen at hkm htm
  obtain ⟨W, hW⟩ : ∃ W, W = (w.alloc (.cells #[.pointer (some ⟨U, 0, none⟩), .slice a1 vars.length c1, .slice a2 fixed.length c2, .slice a3 fields.length c3, .bool own] 156)).alloc (.cells #[.int .i64 k, .string t, .int .i64 n, .slice va ns.length vc, .slice ka ks.length kc] 76) := ⟨_, rfl⟩
  have hb0 : Below w.heap.size w W := by rw [hW]; exact ((zB _ _).alloc (zL _) _).alloc (by simp) _
  have hX0 : Cells (w.heap.size + 1) [.int k, .str t, .int n, .row 0 1 (.slice va ns.length vc) [], .row 0 5 (.slice ka ks.length kc) []] W := by
    have := zab (w.alloc (.cells #[.pointer (some ⟨U, 0, none⟩), .slice a1 vars.length c1, .slice a2 fixed.length c2, .slice a3 fields.length c3, .bool own] 156)) [.int k, .str t, .int n, .row 0 1 (.slice va ns.length vc) [], .row 0 5 (.slice ka ks.length kc) []] 76
    rw [hW]
    rw [show (w.alloc (.cells #[.pointer (some ⟨U, 0, none⟩), .slice a1 vars.length c1, .slice a2 fixed.length c2, .slice a3 fields.length c3, .bool own] 156)).heap.size = w.heap.size + 1 by simp] at this
    exact this
  have hsc0 : ScAt W w.heap.size U (.slice a1 vars.length c1) (.slice a2 fixed.length c2) (.slice a3 fields.length c3) vars fixed fields own := by
    have q1 := (za3 t1 f1 (zL _)).but (zau hb0)
    have q2 := (za3 t2 f2 (zL _)).but (zau hb0)
    have q3 := (za3 t3 f3 (zL _)).but (zau hb0)
    refine ⟨?_, ?_, ?_, ?_, ?_, fun o => ?_, q1, q2, q3⟩ <;> (rw [hW]; go_simp)
  clear t1 f1 t2 f2 t3 f3
  have HU := zH hu
  have HB0 := zH hb0
  have HX0 := zH hX0
  have HSC0 := zH hsc0
  have HKID := zH hkid
  have HTX := zH htx
  have IHK := zH ihk
  have IHG := zH ihg
  have x0 := hX0.at 0 (.int k) rfl
  have x1 := hX0.at 1 (.str t) rfl
  have x2 := hX0.at 2 (.int n) rfl
  have x3 := hX0.at 3 (.row 0 1 (.slice va ns.length vc) []) rfl
  have x4 := hX0.at 4 (.row 0 5 (.slice ka ks.length kc) []) rfl
  simp only [val] at x0 x1 x2 x3 x4
  have HNN : Hid (ns.length + lens ns + (ks.length + Tree.weights ks) + t.size <= 1048576) := zH (by omega)
  have HWS : Hid (vars.length + fixed.length + (ns.length + lens ns + (ks.length + Tree.weights ks)) <= 3000000) := zH (by rw [Tree.weight] at hln; omega)
  have HW := zH hW
  clear hu hb0 hX0 hsc0 hkid htx ihk ihg hn hwt hwt' hln hks
  have hkl : ks.length <= 1048576 := by have := HNN.out; omega
  have ways : ∀ (h4 : k ≠ 4) (wr : World) (x1 x2 : Value) (vars' fixed' : List ByteArray) (R : ByteArray), True := fun _ _ _ _ _ _ _ => trivial
  clear ways
  have hu3 := use_three cs vars fixed fields t
  have HBADR : Hid (Tok.has vars t = false /\ Tok.has fields t = false -> chk own (use cs vars fixed fields) (.mk k t n ns ks) = notAssigned t) := zH (fun h => by rw [h5, chk, if_neg (by omega), if_pos rfl, if_pos (hu3.2 h)])
  have HOKR : Hid (¬ (Tok.has vars t = false /\ Tok.has fields t = false) -> chk own (use cs vars fixed fields) (.mk k t n ns ks) = chks own (use cs vars fixed fields) (from_ k 0) ks) := zH (fun h => by
    have h3 : use cs vars fixed fields t = 3 := by
      by_cases h1 : use cs vars fixed fields t = 3
      · exact h1
      · exact absurd (hu3.1 h1) h
    rw [h5, chk_kids _ _ _ _ _ _ _ (by omega) (by omega) (fun _ => h3)]; rfl)
  generalize chk own (use cs vars fixed fields) (.mk k t n ns ks) = R at *
  have HWL : Hid (vars.length + fixed.length + (ks.length + Tree.weights ks) <= 3000000) := zH (by have := HWS.out; omega)
  have t4 : (k == 4) = false := by rw [h5]; rfl
  have t5 : (k == 5) = true := by rw [h5]; rfl
  have t8 : (k == 8) = false := by rw [h5]; rfl
  obtain ⟨s0, s1, s2, s3, s4, -, st1, st2, st3⟩ := id HSC0.out
  have K1 := zH (SpecTok.has_any _ vars t W (texts_at st1.1))
  have K3 := zH (SpecTok.has_any _ fields t W (texts_at st3.1))
  rw [hW] at x0 x1 x2 x3 x4 K1 K3 s1 s3
  clear HWS HTX h5 hu3 s0 s2 s4 st1 st2 st3
  generalize Tok.has vars t = b1 at *
  generalize Tok.has fields t = b3 at *
  cases b1 with
  | true =>
    have HR := zH (HOKR.out (by simp))
    clear HBADR HOKR K3
    go_enter Tryz.func106, Tryz.ntmps106
    go_wp2_with fail
    refine K1.out.mono ?_
    rintro e w1 ⟨rfl, rfl⟩
    clear K1 s1 s3
    go_upto_region 11 with fail
    clear x0 x1 x2 x3 x4
    rw [<- HW.out]
    clear HW hW
    have HB := HB0
    have HSC := HSC0
    have HX := HX0
    clear HB0 HSC0 HX0
    have HTX := True.intro
    have x4 := HX.out.at 4 (.row 0 5 (.slice ka ks.length kc) []) rfl
    simp only [val] at x4
    go_wp2_with fail
    clear x4
    generalize hNk : ks.length = N at *
    have HNk := zH hNk
    clear hNk
    go_loopw [6] (fun j wr => ∃ i : Nat, i <= N /\ j = .int .i64 i /\ Below w.heap.size w wr /\ ScAt wr w.heap.size U (.slice a1 vars.length c1) (.slice a2 fixed.length c2) (.slice a3 fields.length c3) vars fixed fields own /\ Cells (w.heap.size + 1) [.int k, .str t, .int n, .row 0 1 (.slice va ns.length vc) [], .row 0 5 (.slice ka N kc) []] wr /\ R = chks own (use cs vars fixed fields) (from_ k i) (ks.drop i)) (fun j _ => N - (intOf j).toNat)
    case atStart => exact ⟨0, Nat.zero_le _, rfl, HB.out, HSC.out, HX.out, HR.out⟩
    case round =>
      clear HB HSC HX HR
      obtain ⟨i, hi, rfl, hbr, hsc, hxr, hr⟩ := hrel
      have HB := zH hbr
      have HSC := zH hsc
      have HX := zH hxr
      have HR := zH hr
      have x4 := hxr.at 4 (.row 0 5 (.slice ka N kc) []) rfl
      have x0 := hxr.at 0 (.int k) rfl
      simp only [val] at x0 x4
      clear hbr hsc hxr hr
      by_cases hlt : i < N
      case neg =>
        have HE : Hid (R = ByteArray.empty) := zH (by rw [HR.out, List.drop_of_length_le (by rw [HNk.out]; omega), chks_nil])
        clear HR HSC HX HKID HTX IHK IHG
        go_wp2_with fail
        go_ret
        exact ⟨by rw [HE.out]; rfl, HB.out⟩
      obtain ⟨b, o, ha, hkid⟩ := HKID.out (by omega)
      subst ha
      obtain ⟨x, hx⟩ : ∃ x, ks[i]? = some x := ⟨_, List.getElem?_eq_getElem (by rw [HNk.out]; exact hlt)⟩
      obtain ⟨wn, wk, d0, d1, d2, d3, d4, hnd⟩ := zax (hkid i x hx) HB.out
      have hxm : x ∈ ks := List.mem_of_getElem? hx
      have hwx := za1 hxm
      have hdr : ks.drop i = x :: ks.drop (i + 1) := by
        obtain ⟨h1, h2⟩ := List.getElem?_eq_some_iff.1 hx
        rw [List.drop_eq_getElem_cons h1, h2]
      rw [hdr] at HR
      have IX := zH (IHK.out x hxm)
      have IY := zH (IHG.out x hxm)
      obtain ⟨-, -, -, htxx, hkx⟩ := zat.1 hnd
      obtain ⟨pa, pc, rfl, -⟩ := id htxx
      obtain ⟨qa, qc, rfl, ⟨hq1, hq2⟩, hkid2⟩ := kids_see hkx
      unfold maxLen at hq2
      have HK2 := zH hkid2
      clear htxx hkx hkid2
      have HND := zH hnd
      have HWX : Hid (Tree.weight x <= Tree.weights ks) := zH hwx
      clear hkid hx hxm hdr hnd hwx IHK IHG
      have hbk : Below wr.heap.size wr (wr.alloc (.cells #[.int .i64 x.kind, .string x.text, .int .i64 x.num, .slice pa x.names.length pc, .slice qa x.kids.length qc] 76)) := (zB _ _).alloc (zL _) _
      have hg : Cells wr.heap.size [.int x.kind, .str x.text, .int x.num, .row 0 1 (.slice pa x.names.length pc) [], .row 0 5 (.slice qa x.kids.length qc) []] (wr.alloc (.cells #[.int .i64 x.kind, .string x.text, .int .i64 x.num, .slice pa x.names.length pc, .slice qa x.kids.length qc] 76)) := zab wr [.int x.kind, .str x.text, .int x.num, .row 0 1 (.slice pa x.names.length pc) [], .row 0 5 (.slice qa x.kids.length qc) []] _
      have HB1 := zH (HB.out.trans (hbk.mono HB.out.size))
      have HSC1 := zH (HSC.out.below hbk)
      have HX1 := zH (HX.out.step hbk)
      have HND1 := zH (HND.out.below hbk)
      have HG1 := zH hg
      have HK21 : Hid (0 < x.kids.length -> ∃ b o, qa = some ⟨b, o, none⟩ /\ ∀ i y, x.kids[i]? = some y -> Spot 0 (wr.alloc (.cells #[.int .i64 x.kind, .string x.text, .int .i64 x.num, .slice pa x.names.length pc, .slice qa x.kids.length qc] 76)) b (o + i * 5) y) := zH (fun hp => by
        obtain ⟨b, o, e, h⟩ := HK2.out hp
        exact ⟨b, o, e, fun i y hy => zax (h i y hy) hbk⟩)
      clear hbk hg HB HSC HX HND HK2
      go_upto_region 15 with fail
      generalize wr.alloc (.cells #[.int .i64 x.kind, .string x.text, .int .i64 x.num, .slice pa x.names.length pc, .slice qa x.kids.length qc] 76) = wk at *
      generalize wr.heap.size = G at *
      clear x0 x4 d0 d1 d2 d3 d4
      have x0 := HX1.out.at 0 (.int k) rfl
      have g0 := HG1.out.at 0 (.int x.kind) rfl
      have g1 := HG1.out.at 1 (.str x.text) rfl
      have g2 := HG1.out.at 2 (.int x.num) rfl
      have g3 := HG1.out.at 3 (.row 0 1 (.slice pa x.names.length pc) []) rfl
      have g4 := HG1.out.at 4 (.row 0 5 (.slice qa x.kids.length qc) []) rfl
      simp only [val] at x0 g0 g1 g2 g3 g4
      obtain ⟨s0, s1, s2, s3, s4, -, st1, st2, st3⟩ := id HSC1.out
      have KX := zH (IX.out wk U _ _ _ _ _ _ _ _ (HU.out.below HB1.out) st1.1 st1.2.1 st2.1 st2.2.1 st3.1 st3.2.1 HND1.out (by have := HWX.out; have := HNN.out; omega) (by have := HWX.out; have := HWL.out; omega))
      clear st1 st2 st3
      by_cases hA : i = 0 /\ k = 6 /\ x.kind = 4 /\ x.text = tSuper
      case pos =>
        obtain ⟨hi0, hk6, hxk, hxt⟩ := hA
        have HA : Hid (R = if own then chks own (use cs vars fixed fields) 0 (ks.drop (i + 1)) else outside) := zH (by rw [HR.out, hi0, hk6]; exact chks_super own _ x _ hxk hxt)
        have zi : ((i : Int) == 0) = true := by rw [hi0]; rfl
        have z6 : (k == 6) = true := by rw [hk6]; rfl
        have zk : (x.kind == 4) = true := by rw [hxk]; rfl
        have zt : x.text.toList = [115, 117, 112, 101, 114] := by rw [hxt, ByteArray.toList_eq]; rfl
        have HI0 := zH hi0
        have HK6 := zH hk6
        clear hi0 hk6 hxk hxt KX HR IX IY HND1 HK21 HG1
        cases own with
        | false =>
          have HA2 : Hid (R = outside) := zH (HA.out.trans rfl)
          clear HA
          go_wp2_with fail
          go_ret
          exact ⟨by rw [HA2.out]; rfl, HB1.out⟩
        | true =>
          have HA2 : Hid (R = chks true (use cs vars fixed fields) (from_ k (i + 1)) (ks.drop (i + 1))) := zH (by rw [HA.out, if_pos rfl]; unfold from_; rw [if_neg (by omega), if_neg (by rw [HK6.out]; omega)])
          clear HA
          go_wp2_with fail
          go_roundw
          case rel => exact ⟨i + 1, by omega, by go_num, HB1.out, HSC1.out, HX1.out, HA2.out⟩
          case measure => simp [intOf]; omega
      by_cases hB : k = 7 /\ 0 < i
      case pos =>
        obtain ⟨hk7, hi0⟩ := hB
        have HR2 : Hid (R = first (chks own (use cs vars fixed fields) 0 x.kids) (chks own (use cs vars fixed fields) (from_ k (i + 1)) (ks.drop (i + 1)))) := zH (by rw [HR.out, hk7]; exact chks_message own _ i x _ hi0)
        have zi : ((i : Int) == 0) = false := by rw [beq_eq_false_iff_ne]; omega
        have z7 : (k == 7) = true := by rw [hk7]; rfl
        have zg : (0 : Int) < (i : Int) := by omega
        clear hA hk7 KX HR IX s0 s1 s2 s3 s4
        generalize hM : x.kids.length = M at *
        have HM := zH hM
        clear hM
        go_wp2_with fail
        go_loopw [8] (fun j wr => ∃ q : Nat, q <= M /\ j = .int .i64 q /\ Below wk.heap.size wk wr /\ R = first (chks own (use cs vars fixed fields) 0 (x.kids.drop q)) (chks own (use cs vars fixed fields) (from_ k (i + 1)) (ks.drop (i + 1)))) (fun j _ => M - (intOf j).toNat)
        case atStart => exact ⟨0, Nat.zero_le _, rfl, zB _ _, HR2.out⟩
        case round =>
          clear HR2 g0 g1 g2 g3 g4 x0
          obtain ⟨q, hq, rfl, hbr, hr⟩ := hrel
          have HBR := zH hbr
          have HR := zH hr
          have HB2 := zH (HB1.out.trans (hbr.mono HB1.out.size))
          have HX2 := zH (HX1.out.step hbr)
          have HG2 := zH (HG1.out.step hbr)
          have HSC2 := zH (HSC1.out.below hbr)
          have g4 := HG2.out.at 4 (.row 0 5 (.slice qa M qc) []) rfl
          simp only [val] at g4
          clear hbr hr
          by_cases hltq : q < M
          case neg =>
            have HE : Hid (R = chks own (use cs vars fixed fields) (from_ k (i + 1)) (ks.drop (i + 1))) := zH (by rw [HR.out, List.drop_of_length_le (by rw [HM.out]; omega), chks_nil]; rfl)
            clear HR IY HG2 HK21
            go_wp2_with fail
            go_roundw
            case rel => exact ⟨i + 1, by omega, by go_num, HB2.out, HSC2.out, HX2.out, HE.out⟩
            case measure => simp [intOf]; omega
          obtain ⟨bb, oo, ha, hkid⟩ := HK21.out (by omega)
          subst ha
          obtain ⟨y, hy⟩ : ∃ y, x.kids[q]? = some y := ⟨_, List.getElem?_eq_getElem (by rw [HM.out]; exact hltq)⟩
          obtain ⟨yn, yk, e0, e1, e2, e3, e4, hnd⟩ := zax (hkid q y hy) HBR.out
          have hym : y ∈ x.kids := List.mem_of_getElem? hy
          have hwy := za1 hym
          have hdr : x.kids.drop q = y :: x.kids.drop (q + 1) := by
            obtain ⟨h1, h2⟩ := List.getElem?_eq_some_iff.1 hy
            rw [List.drop_eq_getElem_cons h1, h2]
          have HR2 : Hid (R = first (chk own (use cs vars fixed fields) y) (first (chks own (use cs vars fixed fields) 0 (x.kids.drop (q + 1))) (chks own (use cs vars fixed fields) (from_ k (i + 1)) (ks.drop (i + 1))))) := zH (by rw [HR.out, hdr, chks, first_assoc])
          have hwy2 : Tree.weight y <= Tree.weights ks := Nat.le_trans (Nat.le_trans hwy (by cases x with | mk a1 a2 a3 a4 a5 => rw [Tree.weight]; show Tree.weights a5 <= _; omega)) HWX.out
          obtain ⟨ra, rn, rc, ta, tn, tc, rfl, rfl⟩ := forms_of hnd
          obtain ⟨s0, s1, s2, s3, s4, -, st1, st2, st3⟩ := id HSC2.out
          have KE := fun d os => zH (Calls.regrown_of (w := wr) (d := d) (os := os) (IY.out y hym _ U _ _ _ _ _ _ _ _ ((HU.out.below HB2.out).below (below_regrown wr d os)) (st1.1.below (below_regrown wr d os)) st1.2.1 (st2.1.below (below_regrown wr d os)) st2.2.1 (st3.1.below (below_regrown wr d os)) st3.2.1 (hnd.below (below_regrown wr d os)) (by have := HNN.out; omega) (by have := HWL.out; omega)))
          clear st1 st2 st3 hkid hy hym hwy hdr hnd hwy2 HR IY
          go_upto_region 22 with fail
          have r0 := cell_regrown s0; have r1 := cell_regrown s1; have r2 := cell_regrown s2; have r3 := cell_regrown s3; have r4 := cell_regrown s4; have r5 := cell_regrown g4; have r6 := cell_regrown e0; have r7 := cell_regrown e1; have r8 := cell_regrown e2; have r9 := cell_regrown e3; have r10 := cell_regrown e4
          refine wp_region_quiet_below (by kernel_rfl) (by kernel_rfl) ?_
          repeat (go_big_quiet_step ((go_at_call 106; exact (KE _ _).out)))
          refine wpQuiet_nil ?_
          intro w3 hw3
          have hb3 := zah hw3
          have HBR3 := zH (HBR.out.trans (hb3.mono HBR.out.size))
          have HB3 := zH (HB2.out.trans (hb3.mono HB2.out.size))
          clear hw3 hb3 KE r0 r1 r2 r3 r4 r5 r6 r7 r8 r9 r10 s0 s1 s2 s3 s4 g4 e0 e1 e2 e3 e4 HB2 HX2 HG2 HSC2 HBR
          generalize chk own (use cs vars fixed fields) y = z at *
          by_cases hz : z.data.toList = []
          case pos =>
            have hze := zaj hz
            have HR3 := zH (HR2.out.trans (if_pos hz))
            clear HR2
            go_wp2_with fail
            go_roundw
            case rel => exact ⟨q + 1, by omega, by go_num, HBR3.out, HR3.out⟩
            case measure => simp [intOf]; omega
          case neg =>
            have hze := zae hz
            have HR3 := zH (HR2.out.trans (if_neg hz))
            clear HR2
            go_wp2_with fail
            go_ret
            exact ⟨by rw [HR3.out]; rfl, HB3.out⟩
      have HC : Hid (R = first (chk own (use cs vars fixed fields) x) (chks own (use cs vars fixed fields) (from_ k (i + 1)) (ks.drop (i + 1)))) := zH (by rw [HR.out]; exact chks_call own _ k i x _ hA hB)
      clear HR IX IY HND1 HK21
      by_cases hi0 : i = 0
      case neg =>
        have h7 : ¬ k = 7 := fun h => hB ⟨h, by omega⟩
        have zi : ((i : Int) == 0) = false := by rw [beq_eq_false_iff_ne]; omega
        have z7 : (k == 7) = false := by rw [beq_eq_false_iff_ne]; exact h7
        clear hA hB hi0 h7
        go_wp2_with fail
        refine KX.out.mono ?_
        rintro e w2 ⟨rfl, hb2⟩
        have HB2 := zH (HB1.out.trans (hb2.mono HB1.out.size))
        have HX2 := zH (HX1.out.step hb2)
        have HSC2 := zH (HSC1.out.below hb2)
        clear hb2 KX HB1 HX1 HSC1 HG1 s0 s1 s2 s3 s4 g0 g1 g2 g3 g4 x0
        generalize chk own (use cs vars fixed fields) x = z at *
        by_cases hz : z.data.toList = []
        case pos =>
          have hze := zaj hz
          have HR3 := zH (HC.out.trans (if_pos hz))
          clear HC
          go_wp2_with fail
          go_roundw
          case rel => exact ⟨i + 1, by omega, by go_num, HB2.out, HSC2.out, HX2.out, HR3.out⟩
          case measure => simp [intOf]; omega
        case neg =>
          have hze := zae hz
          have HR3 := zH (HC.out.trans (if_neg hz))
          clear HC
          go_wp2_with fail
          go_ret
          exact ⟨by rw [HR3.out]; rfl, HB2.out⟩
      have zi : ((i : Int) == 0) = true := by rw [hi0]; rfl
      have zg : ¬ (0 : Int) < (i : Int) := by omega
      by_cases h6 : k = 6
      case neg =>
        have z6 : (k == 6) = false := by rw [beq_eq_false_iff_ne]; exact h6
        by_cases h7 : k = 7
        case pos =>
          have z7 : (k == 7) = true := by rw [h7]; rfl
          clear hA hB hi0 h6 h7
          go_wp2_with fail
          refine KX.out.mono ?_
          rintro e w2 ⟨rfl, hb2⟩
          have HB2 := zH (HB1.out.trans (hb2.mono HB1.out.size))
          have HX2 := zH (HX1.out.step hb2)
          have HSC2 := zH (HSC1.out.below hb2)
          clear hb2 KX HB1 HX1 HSC1 HG1 s0 s1 s2 s3 s4 g0 g1 g2 g3 g4 x0
          generalize chk own (use cs vars fixed fields) x = z at *
          by_cases hz : z.data.toList = []
          case pos =>
            have hze := zaj hz
            have HR3 := zH (HC.out.trans (if_pos hz))
            clear HC
            go_wp2_with fail
            go_roundw
            case rel => exact ⟨i + 1, by omega, by go_num, HB2.out, HSC2.out, HX2.out, HR3.out⟩
            case measure => simp [intOf]; omega
          case neg =>
            have hze := zae hz
            have HR3 := zH (HC.out.trans (if_neg hz))
            clear HC
            go_wp2_with fail
            go_ret
            exact ⟨by rw [HR3.out]; rfl, HB2.out⟩
        have z7 : (k == 7) = false := by rw [beq_eq_false_iff_ne]; exact h7
        clear hA hB hi0 h6 h7
        go_wp2_with fail
        refine KX.out.mono ?_
        rintro e w2 ⟨rfl, hb2⟩
        have HB2 := zH (HB1.out.trans (hb2.mono HB1.out.size))
        have HX2 := zH (HX1.out.step hb2)
        have HSC2 := zH (HSC1.out.below hb2)
        clear hb2 KX HB1 HX1 HSC1 HG1 s0 s1 s2 s3 s4 g0 g1 g2 g3 g4 x0
        generalize chk own (use cs vars fixed fields) x = z at *
        by_cases hz : z.data.toList = []
        case pos =>
          have hze := zaj hz
          have HR3 := zH (HC.out.trans (if_pos hz))
          clear HC
          go_wp2_with fail
          go_roundw
          case rel => exact ⟨i + 1, by omega, by go_num, HB2.out, HSC2.out, HX2.out, HR3.out⟩
          case measure => simp [intOf]; omega
        case neg =>
          have hze := zae hz
          have HR3 := zH (HC.out.trans (if_neg hz))
          clear HC
          go_wp2_with fail
          go_ret
          exact ⟨by rw [HR3.out]; rfl, HB2.out⟩
      have z6 : (k == 6) = true := by rw [h6]; rfl
      have z7 : (k == 7) = false := by rw [h6]; rfl
      by_cases hxk : x.kind = 4
      case neg =>
        have zk : (x.kind == 4) = false := by rw [beq_eq_false_iff_ne]; exact hxk
        clear hA hB hi0 h6 hxk
        go_wp2_with fail
        refine KX.out.mono ?_
        rintro e w2 ⟨rfl, hb2⟩
        have HB2 := zH (HB1.out.trans (hb2.mono HB1.out.size))
        have HX2 := zH (HX1.out.step hb2)
        have HSC2 := zH (HSC1.out.below hb2)
        clear hb2 KX HB1 HX1 HSC1 HG1 s0 s1 s2 s3 s4 g0 g1 g2 g3 g4 x0
        generalize chk own (use cs vars fixed fields) x = z at *
        by_cases hz : z.data.toList = []
        case pos =>
          have hze := zaj hz
          have HR3 := zH (HC.out.trans (if_pos hz))
          clear HC
          go_wp2_with fail
          go_roundw
          case rel => exact ⟨i + 1, by omega, by go_num, HB2.out, HSC2.out, HX2.out, HR3.out⟩
          case measure => simp [intOf]; omega
        case neg =>
          have hze := zae hz
          have HR3 := zH (HC.out.trans (if_neg hz))
          clear HC
          go_wp2_with fail
          go_ret
          exact ⟨by rw [HR3.out]; rfl, HB2.out⟩
      have zk : (x.kind == 4) = true := by rw [hxk]; rfl
      have zt : ¬ x.text.toList = [115, 117, 112, 101, 114] := fun e => hA ⟨hi0, h6, hxk, by
        apply ba_of
        rw [e, ByteArray.toList_eq]
        rfl⟩
      have zt2 : (x.text.toList == [115, 117, 112, 101, 114]) = false := by rw [beq_eq_false_iff_ne]; exact zt
      clear hA hB hi0 h6 hxk
      go_wp2_with fail
      refine KX.out.mono ?_
      rintro e w2 ⟨rfl, hb2⟩
      have HB2 := zH (HB1.out.trans (hb2.mono HB1.out.size))
      have HX2 := zH (HX1.out.step hb2)
      have HSC2 := zH (HSC1.out.below hb2)
      clear hb2 KX HB1 HX1 HSC1 HG1 s0 s1 s2 s3 s4 g0 g1 g2 g3 g4 x0
      generalize chk own (use cs vars fixed fields) x = z at *
      by_cases hz : z.data.toList = []
      case pos =>
        have hze := zaj hz
        have HR3 := zH (HC.out.trans (if_pos hz))
        clear HC
        go_wp2_with fail
        go_roundw
        case rel => exact ⟨i + 1, by omega, by go_num, HB2.out, HSC2.out, HX2.out, HR3.out⟩
        case measure => simp [intOf]; omega
      case neg =>
        have hze := zae hz
        have HR3 := zH (HC.out.trans (if_neg hz))
        clear HC
        go_wp2_with fail
        go_ret
        exact ⟨by rw [HR3.out]; rfl, HB2.out⟩
  | false =>
  cases b3 with
  | true =>
    have HR := zH (HOKR.out (by simp))
    clear HBADR HOKR
    go_enter Tryz.func106, Tryz.ntmps106
    go_wp2_with fail
    refine K1.out.mono ?_
    rintro e w1 ⟨rfl, rfl⟩
    go_wp2_with fail
    refine K3.out.mono ?_
    rintro e w1 ⟨rfl, rfl⟩
    clear K1 s1 s3 K3
    go_upto_region 11 with fail
    clear x0 x1 x2 x3 x4
    rw [<- HW.out]
    clear HW hW
    have HB := HB0
    have HSC := HSC0
    have HX := HX0
    clear HB0 HSC0 HX0
    have HTX := True.intro
    have x4 := HX.out.at 4 (.row 0 5 (.slice ka ks.length kc) []) rfl
    simp only [val] at x4
    go_wp2_with fail
    clear x4
    generalize hNk : ks.length = N at *
    have HNk := zH hNk
    clear hNk
    go_loopw [6] (fun j wr => ∃ i : Nat, i <= N /\ j = .int .i64 i /\ Below w.heap.size w wr /\ ScAt wr w.heap.size U (.slice a1 vars.length c1) (.slice a2 fixed.length c2) (.slice a3 fields.length c3) vars fixed fields own /\ Cells (w.heap.size + 1) [.int k, .str t, .int n, .row 0 1 (.slice va ns.length vc) [], .row 0 5 (.slice ka N kc) []] wr /\ R = chks own (use cs vars fixed fields) (from_ k i) (ks.drop i)) (fun j _ => N - (intOf j).toNat)
    case atStart => exact ⟨0, Nat.zero_le _, rfl, HB.out, HSC.out, HX.out, HR.out⟩
    case round =>
      clear HB HSC HX HR
      obtain ⟨i, hi, rfl, hbr, hsc, hxr, hr⟩ := hrel
      have HB := zH hbr
      have HSC := zH hsc
      have HX := zH hxr
      have HR := zH hr
      have x4 := hxr.at 4 (.row 0 5 (.slice ka N kc) []) rfl
      have x0 := hxr.at 0 (.int k) rfl
      simp only [val] at x0 x4
      clear hbr hsc hxr hr
      by_cases hlt : i < N
      case neg =>
        have HE : Hid (R = ByteArray.empty) := zH (by rw [HR.out, List.drop_of_length_le (by rw [HNk.out]; omega), chks_nil])
        clear HR HSC HX HKID HTX IHK IHG
        go_wp2_with fail
        go_ret
        exact ⟨by rw [HE.out]; rfl, HB.out⟩
      obtain ⟨b, o, ha, hkid⟩ := HKID.out (by omega)
      subst ha
      obtain ⟨x, hx⟩ : ∃ x, ks[i]? = some x := ⟨_, List.getElem?_eq_getElem (by rw [HNk.out]; exact hlt)⟩
      obtain ⟨wn, wk, d0, d1, d2, d3, d4, hnd⟩ := zax (hkid i x hx) HB.out
      have hxm : x ∈ ks := List.mem_of_getElem? hx
      have hwx := za1 hxm
      have hdr : ks.drop i = x :: ks.drop (i + 1) := by
        obtain ⟨h1, h2⟩ := List.getElem?_eq_some_iff.1 hx
        rw [List.drop_eq_getElem_cons h1, h2]
      rw [hdr] at HR
      have IX := zH (IHK.out x hxm)
      have IY := zH (IHG.out x hxm)
      obtain ⟨-, -, -, htxx, hkx⟩ := zat.1 hnd
      obtain ⟨pa, pc, rfl, -⟩ := id htxx
      obtain ⟨qa, qc, rfl, ⟨hq1, hq2⟩, hkid2⟩ := kids_see hkx
      unfold maxLen at hq2
      have HK2 := zH hkid2
      clear htxx hkx hkid2
      have HND := zH hnd
      have HWX : Hid (Tree.weight x <= Tree.weights ks) := zH hwx
      clear hkid hx hxm hdr hnd hwx IHK IHG
      have hbk : Below wr.heap.size wr (wr.alloc (.cells #[.int .i64 x.kind, .string x.text, .int .i64 x.num, .slice pa x.names.length pc, .slice qa x.kids.length qc] 76)) := (zB _ _).alloc (zL _) _
      have hg : Cells wr.heap.size [.int x.kind, .str x.text, .int x.num, .row 0 1 (.slice pa x.names.length pc) [], .row 0 5 (.slice qa x.kids.length qc) []] (wr.alloc (.cells #[.int .i64 x.kind, .string x.text, .int .i64 x.num, .slice pa x.names.length pc, .slice qa x.kids.length qc] 76)) := zab wr [.int x.kind, .str x.text, .int x.num, .row 0 1 (.slice pa x.names.length pc) [], .row 0 5 (.slice qa x.kids.length qc) []] _
      have HB1 := zH (HB.out.trans (hbk.mono HB.out.size))
      have HSC1 := zH (HSC.out.below hbk)
      have HX1 := zH (HX.out.step hbk)
      have HND1 := zH (HND.out.below hbk)
      have HG1 := zH hg
      have HK21 : Hid (0 < x.kids.length -> ∃ b o, qa = some ⟨b, o, none⟩ /\ ∀ i y, x.kids[i]? = some y -> Spot 0 (wr.alloc (.cells #[.int .i64 x.kind, .string x.text, .int .i64 x.num, .slice pa x.names.length pc, .slice qa x.kids.length qc] 76)) b (o + i * 5) y) := zH (fun hp => by
        obtain ⟨b, o, e, h⟩ := HK2.out hp
        exact ⟨b, o, e, fun i y hy => zax (h i y hy) hbk⟩)
      clear hbk hg HB HSC HX HND HK2
      go_upto_region 15 with fail
      generalize wr.alloc (.cells #[.int .i64 x.kind, .string x.text, .int .i64 x.num, .slice pa x.names.length pc, .slice qa x.kids.length qc] 76) = wk at *
      generalize wr.heap.size = G at *
      clear x0 x4 d0 d1 d2 d3 d4
      have x0 := HX1.out.at 0 (.int k) rfl
      have g0 := HG1.out.at 0 (.int x.kind) rfl
      have g1 := HG1.out.at 1 (.str x.text) rfl
      have g2 := HG1.out.at 2 (.int x.num) rfl
      have g3 := HG1.out.at 3 (.row 0 1 (.slice pa x.names.length pc) []) rfl
      have g4 := HG1.out.at 4 (.row 0 5 (.slice qa x.kids.length qc) []) rfl
      simp only [val] at x0 g0 g1 g2 g3 g4
      obtain ⟨s0, s1, s2, s3, s4, -, st1, st2, st3⟩ := id HSC1.out
      have KX := zH (IX.out wk U _ _ _ _ _ _ _ _ (HU.out.below HB1.out) st1.1 st1.2.1 st2.1 st2.2.1 st3.1 st3.2.1 HND1.out (by have := HWX.out; have := HNN.out; omega) (by have := HWX.out; have := HWL.out; omega))
      clear st1 st2 st3
      by_cases hA : i = 0 /\ k = 6 /\ x.kind = 4 /\ x.text = tSuper
      case pos =>
        obtain ⟨hi0, hk6, hxk, hxt⟩ := hA
        have HA : Hid (R = if own then chks own (use cs vars fixed fields) 0 (ks.drop (i + 1)) else outside) := zH (by rw [HR.out, hi0, hk6]; exact chks_super own _ x _ hxk hxt)
        have zi : ((i : Int) == 0) = true := by rw [hi0]; rfl
        have z6 : (k == 6) = true := by rw [hk6]; rfl
        have zk : (x.kind == 4) = true := by rw [hxk]; rfl
        have zt : x.text.toList = [115, 117, 112, 101, 114] := by rw [hxt, ByteArray.toList_eq]; rfl
        have HI0 := zH hi0
        have HK6 := zH hk6
        clear hi0 hk6 hxk hxt KX HR IX IY HND1 HK21 HG1
        cases own with
        | false =>
          have HA2 : Hid (R = outside) := zH (HA.out.trans rfl)
          clear HA
          go_wp2_with fail
          go_ret
          exact ⟨by rw [HA2.out]; rfl, HB1.out⟩
        | true =>
          have HA2 : Hid (R = chks true (use cs vars fixed fields) (from_ k (i + 1)) (ks.drop (i + 1))) := zH (by rw [HA.out, if_pos rfl]; unfold from_; rw [if_neg (by omega), if_neg (by rw [HK6.out]; omega)])
          clear HA
          go_wp2_with fail
          go_roundw
          case rel => exact ⟨i + 1, by omega, by go_num, HB1.out, HSC1.out, HX1.out, HA2.out⟩
          case measure => simp [intOf]; omega
      by_cases hB : k = 7 /\ 0 < i
      case pos =>
        obtain ⟨hk7, hi0⟩ := hB
        have HR2 : Hid (R = first (chks own (use cs vars fixed fields) 0 x.kids) (chks own (use cs vars fixed fields) (from_ k (i + 1)) (ks.drop (i + 1)))) := zH (by rw [HR.out, hk7]; exact chks_message own _ i x _ hi0)
        have zi : ((i : Int) == 0) = false := by rw [beq_eq_false_iff_ne]; omega
        have z7 : (k == 7) = true := by rw [hk7]; rfl
        have zg : (0 : Int) < (i : Int) := by omega
        clear hA hk7 KX HR IX s0 s1 s2 s3 s4
        generalize hM : x.kids.length = M at *
        have HM := zH hM
        clear hM
        go_wp2_with fail
        go_loopw [8] (fun j wr => ∃ q : Nat, q <= M /\ j = .int .i64 q /\ Below wk.heap.size wk wr /\ R = first (chks own (use cs vars fixed fields) 0 (x.kids.drop q)) (chks own (use cs vars fixed fields) (from_ k (i + 1)) (ks.drop (i + 1)))) (fun j _ => M - (intOf j).toNat)
        case atStart => exact ⟨0, Nat.zero_le _, rfl, zB _ _, HR2.out⟩
        case round =>
          clear HR2 g0 g1 g2 g3 g4 x0
          obtain ⟨q, hq, rfl, hbr, hr⟩ := hrel
          have HBR := zH hbr
          have HR := zH hr
          have HB2 := zH (HB1.out.trans (hbr.mono HB1.out.size))
          have HX2 := zH (HX1.out.step hbr)
          have HG2 := zH (HG1.out.step hbr)
          have HSC2 := zH (HSC1.out.below hbr)
          have g4 := HG2.out.at 4 (.row 0 5 (.slice qa M qc) []) rfl
          simp only [val] at g4
          clear hbr hr
          by_cases hltq : q < M
          case neg =>
            have HE : Hid (R = chks own (use cs vars fixed fields) (from_ k (i + 1)) (ks.drop (i + 1))) := zH (by rw [HR.out, List.drop_of_length_le (by rw [HM.out]; omega), chks_nil]; rfl)
            clear HR IY HG2 HK21
            go_wp2_with fail
            go_roundw
            case rel => exact ⟨i + 1, by omega, by go_num, HB2.out, HSC2.out, HX2.out, HE.out⟩
            case measure => simp [intOf]; omega
          obtain ⟨bb, oo, ha, hkid⟩ := HK21.out (by omega)
          subst ha
          obtain ⟨y, hy⟩ : ∃ y, x.kids[q]? = some y := ⟨_, List.getElem?_eq_getElem (by rw [HM.out]; exact hltq)⟩
          obtain ⟨yn, yk, e0, e1, e2, e3, e4, hnd⟩ := zax (hkid q y hy) HBR.out
          have hym : y ∈ x.kids := List.mem_of_getElem? hy
          have hwy := za1 hym
          have hdr : x.kids.drop q = y :: x.kids.drop (q + 1) := by
            obtain ⟨h1, h2⟩ := List.getElem?_eq_some_iff.1 hy
            rw [List.drop_eq_getElem_cons h1, h2]
          have HR2 : Hid (R = first (chk own (use cs vars fixed fields) y) (first (chks own (use cs vars fixed fields) 0 (x.kids.drop (q + 1))) (chks own (use cs vars fixed fields) (from_ k (i + 1)) (ks.drop (i + 1))))) := zH (by rw [HR.out, hdr, chks, first_assoc])
          have hwy2 : Tree.weight y <= Tree.weights ks := Nat.le_trans (Nat.le_trans hwy (by cases x with | mk a1 a2 a3 a4 a5 => rw [Tree.weight]; show Tree.weights a5 <= _; omega)) HWX.out
          obtain ⟨ra, rn, rc, ta, tn, tc, rfl, rfl⟩ := forms_of hnd
          obtain ⟨s0, s1, s2, s3, s4, -, st1, st2, st3⟩ := id HSC2.out
          have KE := fun d os => zH (Calls.regrown_of (w := wr) (d := d) (os := os) (IY.out y hym _ U _ _ _ _ _ _ _ _ ((HU.out.below HB2.out).below (below_regrown wr d os)) (st1.1.below (below_regrown wr d os)) st1.2.1 (st2.1.below (below_regrown wr d os)) st2.2.1 (st3.1.below (below_regrown wr d os)) st3.2.1 (hnd.below (below_regrown wr d os)) (by have := HNN.out; omega) (by have := HWL.out; omega)))
          clear st1 st2 st3 hkid hy hym hwy hdr hnd hwy2 HR IY
          go_upto_region 22 with fail
          have r0 := cell_regrown s0; have r1 := cell_regrown s1; have r2 := cell_regrown s2; have r3 := cell_regrown s3; have r4 := cell_regrown s4; have r5 := cell_regrown g4; have r6 := cell_regrown e0; have r7 := cell_regrown e1; have r8 := cell_regrown e2; have r9 := cell_regrown e3; have r10 := cell_regrown e4
          refine wp_region_quiet_below (by kernel_rfl) (by kernel_rfl) ?_
          repeat (go_big_quiet_step ((go_at_call 106; exact (KE _ _).out)))
          refine wpQuiet_nil ?_
          intro w3 hw3
          have hb3 := zah hw3
          have HBR3 := zH (HBR.out.trans (hb3.mono HBR.out.size))
          have HB3 := zH (HB2.out.trans (hb3.mono HB2.out.size))
          clear hw3 hb3 KE r0 r1 r2 r3 r4 r5 r6 r7 r8 r9 r10 s0 s1 s2 s3 s4 g4 e0 e1 e2 e3 e4 HB2 HX2 HG2 HSC2 HBR
          generalize chk own (use cs vars fixed fields) y = z at *
          by_cases hz : z.data.toList = []
          case pos =>
            have hze := zaj hz
            have HR3 := zH (HR2.out.trans (if_pos hz))
            clear HR2
            go_wp2_with fail
            go_roundw
            case rel => exact ⟨q + 1, by omega, by go_num, HBR3.out, HR3.out⟩
            case measure => simp [intOf]; omega
          case neg =>
            have hze := zae hz
            have HR3 := zH (HR2.out.trans (if_neg hz))
            clear HR2
            go_wp2_with fail
            go_ret
            exact ⟨by rw [HR3.out]; rfl, HB3.out⟩
      have HC : Hid (R = first (chk own (use cs vars fixed fields) x) (chks own (use cs vars fixed fields) (from_ k (i + 1)) (ks.drop (i + 1)))) := zH (by rw [HR.out]; exact chks_call own _ k i x _ hA hB)
      clear HR IX IY HND1 HK21
      by_cases hi0 : i = 0
      case neg =>
        have h7 : ¬ k = 7 := fun h => hB ⟨h, by omega⟩
        have zi : ((i : Int) == 0) = false := by rw [beq_eq_false_iff_ne]; omega
        have z7 : (k == 7) = false := by rw [beq_eq_false_iff_ne]; exact h7
        clear hA hB hi0 h7
        go_wp2_with fail
        refine KX.out.mono ?_
        rintro e w2 ⟨rfl, hb2⟩
        have HB2 := zH (HB1.out.trans (hb2.mono HB1.out.size))
        have HX2 := zH (HX1.out.step hb2)
        have HSC2 := zH (HSC1.out.below hb2)
        clear hb2 KX HB1 HX1 HSC1 HG1 s0 s1 s2 s3 s4 g0 g1 g2 g3 g4 x0
        generalize chk own (use cs vars fixed fields) x = z at *
        by_cases hz : z.data.toList = []
        case pos =>
          have hze := zaj hz
          have HR3 := zH (HC.out.trans (if_pos hz))
          clear HC
          go_wp2_with fail
          go_roundw
          case rel => exact ⟨i + 1, by omega, by go_num, HB2.out, HSC2.out, HX2.out, HR3.out⟩
          case measure => simp [intOf]; omega
        case neg =>
          have hze := zae hz
          have HR3 := zH (HC.out.trans (if_neg hz))
          clear HC
          go_wp2_with fail
          go_ret
          exact ⟨by rw [HR3.out]; rfl, HB2.out⟩
      have zi : ((i : Int) == 0) = true := by rw [hi0]; rfl
      have zg : ¬ (0 : Int) < (i : Int) := by omega
      by_cases h6 : k = 6
      case neg =>
        have z6 : (k == 6) = false := by rw [beq_eq_false_iff_ne]; exact h6
        by_cases h7 : k = 7
        case pos =>
          have z7 : (k == 7) = true := by rw [h7]; rfl
          clear hA hB hi0 h6 h7
          go_wp2_with fail
          refine KX.out.mono ?_
          rintro e w2 ⟨rfl, hb2⟩
          have HB2 := zH (HB1.out.trans (hb2.mono HB1.out.size))
          have HX2 := zH (HX1.out.step hb2)
          have HSC2 := zH (HSC1.out.below hb2)
          clear hb2 KX HB1 HX1 HSC1 HG1 s0 s1 s2 s3 s4 g0 g1 g2 g3 g4 x0
          generalize chk own (use cs vars fixed fields) x = z at *
          by_cases hz : z.data.toList = []
          case pos =>
            have hze := zaj hz
            have HR3 := zH (HC.out.trans (if_pos hz))
            clear HC
            go_wp2_with fail
            go_roundw
            case rel => exact ⟨i + 1, by omega, by go_num, HB2.out, HSC2.out, HX2.out, HR3.out⟩
            case measure => simp [intOf]; omega
          case neg =>
            have hze := zae hz
            have HR3 := zH (HC.out.trans (if_neg hz))
            clear HC
            go_wp2_with fail
            go_ret
            exact ⟨by rw [HR3.out]; rfl, HB2.out⟩
        have z7 : (k == 7) = false := by rw [beq_eq_false_iff_ne]; exact h7
        clear hA hB hi0 h6 h7
        go_wp2_with fail
        refine KX.out.mono ?_
        rintro e w2 ⟨rfl, hb2⟩
        have HB2 := zH (HB1.out.trans (hb2.mono HB1.out.size))
        have HX2 := zH (HX1.out.step hb2)
        have HSC2 := zH (HSC1.out.below hb2)
        clear hb2 KX HB1 HX1 HSC1 HG1 s0 s1 s2 s3 s4 g0 g1 g2 g3 g4 x0
        generalize chk own (use cs vars fixed fields) x = z at *
        by_cases hz : z.data.toList = []
        case pos =>
          have hze := zaj hz
          have HR3 := zH (HC.out.trans (if_pos hz))
          clear HC
          go_wp2_with fail
          go_roundw
          case rel => exact ⟨i + 1, by omega, by go_num, HB2.out, HSC2.out, HX2.out, HR3.out⟩
          case measure => simp [intOf]; omega
        case neg =>
          have hze := zae hz
          have HR3 := zH (HC.out.trans (if_neg hz))
          clear HC
          go_wp2_with fail
          go_ret
          exact ⟨by rw [HR3.out]; rfl, HB2.out⟩
      have z6 : (k == 6) = true := by rw [h6]; rfl
      have z7 : (k == 7) = false := by rw [h6]; rfl
      by_cases hxk : x.kind = 4
      case neg =>
        have zk : (x.kind == 4) = false := by rw [beq_eq_false_iff_ne]; exact hxk
        clear hA hB hi0 h6 hxk
        go_wp2_with fail
        refine KX.out.mono ?_
        rintro e w2 ⟨rfl, hb2⟩
        have HB2 := zH (HB1.out.trans (hb2.mono HB1.out.size))
        have HX2 := zH (HX1.out.step hb2)
        have HSC2 := zH (HSC1.out.below hb2)
        clear hb2 KX HB1 HX1 HSC1 HG1 s0 s1 s2 s3 s4 g0 g1 g2 g3 g4 x0
        generalize chk own (use cs vars fixed fields) x = z at *
        by_cases hz : z.data.toList = []
        case pos =>
          have hze := zaj hz
          have HR3 := zH (HC.out.trans (if_pos hz))
          clear HC
          go_wp2_with fail
          go_roundw
          case rel => exact ⟨i + 1, by omega, by go_num, HB2.out, HSC2.out, HX2.out, HR3.out⟩
          case measure => simp [intOf]; omega
        case neg =>
          have hze := zae hz
          have HR3 := zH (HC.out.trans (if_neg hz))
          clear HC
          go_wp2_with fail
          go_ret
          exact ⟨by rw [HR3.out]; rfl, HB2.out⟩
      have zk : (x.kind == 4) = true := by rw [hxk]; rfl
      have zt : ¬ x.text.toList = [115, 117, 112, 101, 114] := fun e => hA ⟨hi0, h6, hxk, by
        apply ba_of
        rw [e, ByteArray.toList_eq]
        rfl⟩
      have zt2 : (x.text.toList == [115, 117, 112, 101, 114]) = false := by rw [beq_eq_false_iff_ne]; exact zt
      clear hA hB hi0 h6 hxk
      go_wp2_with fail
      refine KX.out.mono ?_
      rintro e w2 ⟨rfl, hb2⟩
      have HB2 := zH (HB1.out.trans (hb2.mono HB1.out.size))
      have HX2 := zH (HX1.out.step hb2)
      have HSC2 := zH (HSC1.out.below hb2)
      clear hb2 KX HB1 HX1 HSC1 HG1 s0 s1 s2 s3 s4 g0 g1 g2 g3 g4 x0
      generalize chk own (use cs vars fixed fields) x = z at *
      by_cases hz : z.data.toList = []
      case pos =>
        have hze := zaj hz
        have HR3 := zH (HC.out.trans (if_pos hz))
        clear HC
        go_wp2_with fail
        go_roundw
        case rel => exact ⟨i + 1, by omega, by go_num, HB2.out, HSC2.out, HX2.out, HR3.out⟩
        case measure => simp [intOf]; omega
      case neg =>
        have hze := zae hz
        have HR3 := zH (HC.out.trans (if_neg hz))
        clear HC
        go_wp2_with fail
        go_ret
        exact ⟨by rw [HR3.out]; rfl, HB2.out⟩
  | false =>
    have HR : Hid (R = ⟨#[110, 97, 109, 101, 32]⟩ ++ t ++ ⟨#[32, 99, 97, 110, 32, 110, 111, 116, 32, 98, 101, 32, 97, 115, 115, 105, 103, 110, 101, 100]⟩) := zH (HBADR.out (by simp))
    obtain ⟨hadd, hadd2⟩ := add2 ⟨#[110, 97, 109, 101, 32]⟩ ⟨#[32, 99, 97, 110, 32, 110, 111, 116, 32, 98, 101, 32, 97, 115, 115, 105, 103, 110, 101, 100]⟩ t (by decide) (by decide) hts
    have HB1 : Hid (Below w.heap.size w ((w.alloc (.cells #[.pointer (some ⟨U, 0, none⟩), .slice a1 vars.length c1, .slice a2 fixed.length c2, .slice a3 fields.length c3, .bool own] 156)).alloc (.cells #[.int .i64 k, .string t, .int .i64 n, .slice va ns.length vc, .slice ka ks.length kc] 76))) := zH (by have := HB0.out; rw [HW.out] at this; exact this)
    clear HBADR HOKR HW hW HB0
    go_enter Tryz.func106, Tryz.ntmps106
    go_wp2_with fail
    refine K1.out.mono ?_
    rintro e w1 ⟨rfl, rfl⟩
    go_wp2_with fail
    refine K3.out.mono ?_
    rintro e w1 ⟨rfl, rfl⟩
    clear K1 K3
    go_wp2_with fail
    go_ret
    exact ⟨by rw [HR.out]; rfl, HB1.out⟩
end SpecChk
end Go.Proofs.YtnlgdkfenipmfaaGreatDoor
