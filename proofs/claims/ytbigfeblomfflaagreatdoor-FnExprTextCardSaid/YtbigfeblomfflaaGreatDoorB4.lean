/-
  DrawNode
-/
import Derived.Test.YtbigfeblomfflaaGreatDoorB3
namespace Go.Proofs.YtbigfeblomfflaaGreatDoor
namespace DrawTree
open Go.RowKit
open Strs Tree Cur Draw Soft
open Go.Proofs.YtbigfeblomfflaaGreatDoor.Parser
set_option linter.unusedVariables false
theorem once_any {g : Nat} {a : Option Addr} {len cap : Nat} {w : World} (n : Int) (hn : 0 < n) (hn2 : n <= 4294967296) (hc : Cur w g a len cap) (hb : Bytes w g a len) :
    Calls Tryz.prog 148 #[.pointer (some ⟨g, 0, none⟩), .int .i64 n] w fun e w' => ∃ x : Bool, e = .returned (.bool x) /\ Cur w' g a len cap /\ Bytes w' g a len /\ w.grownBy w' (some g) := by
  have KB := zH (below_keep n hn hn2 hc hb)
  clear hc hb
  go_enter Tryz.func148, Tryz.ntmps148
  go_wp2_with fail
  refine KB.out.mono ?_
  rintro e w1 ⟨x, rfl, hx0, hx1, hc1, hb1, hg1⟩
  have HF := zH (And.intro hc1 (And.intro hb1 hg1))
  clear hc1 hb1 hg1 KB
  go_wp2_with fail
  go_ret
  exact ⟨_, rfl, HF.out⟩
set_option maxRecDepth 10000 in
set_option maxHeartbeats 16000000 in
theorem draw_node (W : Nat) (d : Int) (hd : 0 < d /\ d <= 100) (g : Nat) (a : Option Addr) (len cap : Nat) (w : World) (hc : Cur w g a len cap) (hb : Bytes w g a len)
    (hrec : ∀ w, Cur w g a len cap -> Bytes w g a len -> Calls Tryz.prog 84 #[.pointer (some ⟨g, 0, none⟩), .int .i64 (d - 1)] w (DrawT W g a len cap w)) :
    Calls Tryz.prog 84 #[.pointer (some ⟨g, 0, none⟩), .int .i64 d] w (DrawT (3 * W + 20) g a len cap w) := by
  have hgl := curLt hc
  have hne : w.heap.size ≠ g := by omega
  have hba := zad w (.cells #[.int .i64 0, .string ⟨#[]⟩, .int .i64 0, .slice none 0 0, .slice none 0 0] 27)
  have HZ0 := zH (zero_new w 27)
  have HG0 := zH (zav (grown_refl w (some g)) hba)
  have KB := zH (below_keep 12 (by decide) (by decide) (curKeep hc hba) (bytesKeep hb hba))
  have KD := fun w h1 h2 => zH (hrec w h1 h2)
  have HBI := zH hb
  obtain ⟨i0, hi, hz0, hz1, hz2⟩ := info_parts infoE
  obtain ⟨j0, hj, hy0, hy1, hy2⟩ := info_parts infoX
  have td : decide (d <= 0) = false := by rw [decide_eq_false_iff_not]; omega
  have hd1 : -9223372036854775808 <= d - 1 /\ d - 1 <= 9223372036854775807 := by omega
  clear hc hb hba hrec
  go_enter Tryz.func84, Tryz.ntmps84
  go_wp2_with fail
  refine KB.out.mono ?_
  rintro e w1 ⟨x, rfl, hx0, hx1, hc1, hb1, hg1⟩
  have HC1 := zH hc1
  have HB1 := zH hb1
  have HZ1 := zH (zam HZ0.out hg1 hne)
  have HG1 := zH (zab HG0.out hg1)
  have hcase : x = 0 \/ x = 1 \/ x = 2 \/ x = 3 \/ x = 4 \/ x = 5 \/ x = 6 \/ x = 7 \/ x = 8 \/ x = 9 \/ x = 10 \/ x = 11 := by omega
  clear hx0 hx1 hc1 hb1 hg1 KB
  rcases hcase with rfl | rfl | rfl | rfl | rfl | rfl | rfl | rfl | rfl | rfl | rfl | rfl
  · go_wp2_with fail
    refine (pickint_lit HC1.out HB1.out ints _ 6 rfl rfl (by decide) (by decide)).mono ?_
    rintro e w2 ⟨s, hs, rfl, hc2, hb2, hg2⟩
    have HD : Hid (Dr (w.heap.size + 1) w2 1 ⟨#[]⟩ s [] [] (.slice none 0 0) (.slice none 0 0)) := zH ⟨rfl, ints_wf s hs, Nat.zero_le _, zas _ _, .inl ⟨rfl, rfl⟩, .inl rfl⟩
    have HW : Hid (weight (.mk 1 ⟨#[]⟩ s [] (trees [])) <= 3 * W + 20) := zH (by rw [zau]; show 0 + (0 + 0) + (0 + 0) <= _; omega)
    have HC2 := zH hc2
    have HG2 := zH (zab HG1.out hg2)
    obtain ⟨hsz, z0, z1, z2, z3, z4, fz⟩ := zam HZ1.out hg2 hne
    clear hs hc2 hb2 hg2
    go_wp2_with fail
    refine bodyPost_ret (v := .agg #[.int .i64 1, .string ⟨#[]⟩, .int .i64 s, .slice none 0 0, .slice none 0 0]) (by simp [results, Tryz.results84, go_sem, *]) rfl ?_
    exact zal HD.out HC2.out HG2.out hgl HW.out
  · go_wp2_with fail
    refine (pick_lit HC1.out HB1.out txts _ 4 rfl rfl (by decide) (by decide)).mono ?_
    rintro e w2 ⟨s, hs, rfl, hc2, hb2, hg2⟩
    have hsl := txts_le s hs
    have HD : Hid (Dr (w.heap.size + 1) w2 2 s 0 [] [] (.slice none 0 0) (.slice none 0 0)) := zH ⟨rfl, rfl, by unfold maxLen; omega, zas _ _, .inl ⟨rfl, rfl⟩, .inl rfl⟩
    have HW : Hid (weight (.mk 2 s 0 [] (trees [])) <= 3 * W + 20) := zH (by rw [zau]; show s.size + (0 + 0) + (0 + 0) <= _; omega)
    have HC2 := zH hc2
    have HG2 := zH (zab HG1.out hg2)
    obtain ⟨hsz, z0, z1, z2, z3, z4, fz⟩ := zam HZ1.out hg2 hne
    clear hs hc2 hb2 hg2
    go_wp2_with fail
    refine bodyPost_ret (v := .agg #[.int .i64 2, .string s, .int .i64 0, .slice none 0 0, .slice none 0 0]) (by simp [results, Tryz.results84, go_sem, *]) rfl ?_
    exact zal HD.out HC2.out HG2.out hgl HW.out
  · go_wp2_with fail
    refine (pick_lit HC1.out HB1.out syms _ 3 rfl rfl (by decide) (by decide)).mono ?_
    rintro e w2 ⟨s, hs, rfl, hc2, hb2, hg2⟩
    have hsl := syms_le s hs
    have HD : Hid (Dr (w.heap.size + 1) w2 3 s 0 [] [] (.slice none 0 0) (.slice none 0 0)) := zH ⟨rfl, rfl, by unfold maxLen; omega, zas _ _, .inl ⟨rfl, rfl⟩, .inl rfl⟩
    have HW : Hid (weight (.mk 3 s 0 [] (trees [])) <= 3 * W + 20) := zH (by rw [zau]; show s.size + (0 + 0) + (0 + 0) <= _; omega)
    have HC2 := zH hc2
    have HG2 := zH (zab HG1.out hg2)
    obtain ⟨hsz, z0, z1, z2, z3, z4, fz⟩ := zam HZ1.out hg2 hne
    clear hs hc2 hb2 hg2
    go_wp2_with fail
    refine bodyPost_ret (v := .agg #[.int .i64 3, .string s, .int .i64 0, .slice none 0 0, .slice none 0 0]) (by simp [results, Tryz.results84, go_sem, *]) rfl ?_
    exact zal HD.out HC2.out HG2.out hgl HW.out
  · go_wp2_with fail
    refine (pick_lit HC1.out HB1.out nams _ 6 rfl rfl (by decide) (by decide)).mono ?_
    rintro e w2 ⟨s, hs, rfl, hc2, hb2, hg2⟩
    have hsl := nams_le s hs
    have HD : Hid (Dr (w.heap.size + 1) w2 4 s 0 [] [] (.slice none 0 0) (.slice none 0 0)) := zH ⟨rfl, rfl, by unfold maxLen; omega, zas _ _, .inl ⟨rfl, rfl⟩, .inl rfl⟩
    have HW : Hid (weight (.mk 4 s 0 [] (trees [])) <= 3 * W + 20) := zH (by rw [zau]; show s.size + (0 + 0) + (0 + 0) <= _; omega)
    have HC2 := zH hc2
    have HG2 := zH (zab HG1.out hg2)
    obtain ⟨hsz, z0, z1, z2, z3, z4, fz⟩ := zam HZ1.out hg2 hne
    clear hs hc2 hb2 hg2
    go_wp2_with fail
    refine bodyPost_ret (v := .agg #[.int .i64 4, .string s, .int .i64 0, .slice none 0 0, .slice none 0 0]) (by simp [results, Tryz.results84, go_sem, *]) rfl ?_
    exact zal HD.out HC2.out HG2.out hgl HW.out
  · go_wp2_with fail
    refine (pick_lit HC1.out HB1.out nams _ 6 rfl rfl (by decide) (by decide)).mono ?_
    rintro e w2 ⟨s, hs, rfl, hc2, hb2, hg2⟩
    have hsl := nams_le s hs
    have HD : Hid (Dr (w.heap.size + 1) w2 4 s 0 [] [] (.slice none 0 0) (.slice none 0 0)) := zH ⟨rfl, rfl, by unfold maxLen; omega, zas _ _, .inl ⟨rfl, rfl⟩, .inl rfl⟩
    have HW : Hid (weight (.mk 4 s 0 [] (trees [])) <= 3 * W + 20) := zH (by rw [zau]; show s.size + (0 + 0) + (0 + 0) <= _; omega)
    have HC2 := zH hc2
    have HG2 := zH (zab HG1.out hg2)
    obtain ⟨hsz, z0, z1, z2, z3, z4, fz⟩ := zam HZ1.out hg2 hne
    clear hs hc2 hb2 hg2
    go_wp2_with fail
    refine bodyPost_ret (v := .agg #[.int .i64 4, .string s, .int .i64 0, .slice none 0 0, .slice none 0 0]) (by simp [results, Tryz.results84, go_sem, *]) rfl ?_
    exact zal HD.out HC2.out HG2.out hgl HW.out
  · go_wp2_with fail
    refine (pick_lit HC1.out HB1.out ass _ 2 rfl rfl (by decide) (by decide)).mono ?_
    rintro r w2 ⟨s, hs, rfl, hc2, hb2, hg2⟩
    have hsl := ass_le s hs
    clear hs
    have HC2 := zH hc2
    have HB2 := zH hb2
    have HZ2 := zH (zam HZ1.out hg2 hne)
    have HG2 := zH (zab HG1.out hg2)
    clear hc2 hb2 hg2
    go_wp2_with fail
    refine (KD w2 HC2.out HB2.out).out.mono ?_
    rintro r w3 ⟨k1, t1, n1, ns1, L1, vn1, vk1, rfl, hd1, hc3, hg3, hw1⟩
    obtain ⟨xa1, xl1, xc1, ya1, yl1, yc1, rfl, rfl⟩ := zaq hd1.node
    have HN1w3 := zH (hd1.base (lo' := w.heap.size + 1) (by have := HZ2.out.size; omega)).ns
    have HW1 := zH hw1
    have HC3 := zH hc3
    have HB3 := zH (HB2.out.keep hg3)
    have HZ3 := zH (zam HZ2.out hg3 hne)
    have HG3 := zH (zab HG2.out hg3)
    generalize hE1 : E.mk k1 t1 n1 ns1 (trees L1) = e1 at *
    obtain ⟨rfl, rfl, rfl⟩ : k1 = e1.kind /\ t1 = e1.text /\ n1 = e1.num := by rw [<- hE1]; exact ⟨rfl, rfl, rfl⟩
    clear hE1 hd1 hc3 hg3 hw1
    have HW : Hid (weight (.mk 5 s 0 [] (trees [(e1, .slice xa1 xl1 xc1, .slice ya1 yl1 yc1)])) <= 3 * W + 20) := zH (by
      rw [zau]
      have e1 : weights (trees [(e1, .slice xa1 xl1 xc1, .slice ya1 yl1 yc1)]) = weight e1 := by simp [trees, weights]
      rw [e1]
      have := HW1.out
      show s.size + (0 + 0) + (1 + _) <= _
      omega)
    have hdl := drawn_lit (g := g) (w := w) (w1 := w3) (k := 5) (t := s) (L := [(e1, .slice xa1 xl1 xc1, .slice ya1 yl1 yc1)]) #[.int .i64 e1.kind, .string e1.text, .int .i64 e1.num, .slice xa1 xl1 xc1, .slice ya1 yl1 yc1] rfl (by simp) (by simp) (by
      intro x hx
      simp only [List.mem_cons, List.not_mem_nil, or_false] at hx
      subst hx
      exact HN1w3.out) rfl (by unfold maxLen; omega) HZ3.out.size HC3.out HG3.out hgl HW.out
    have HDL := zH hdl
    clear hdl
    obtain ⟨hsz, z0, z1, z2, z3, z4, fz⟩ := HZ3.out
    go_wp2_with fail
    refine bodyPost_ret (v := .agg #[.int .i64 5, .string s, .int .i64 0, .slice none 0 0, .slice (some ⟨w3.heap.size, 0, none⟩) 1 1]) (by simp [results, Tryz.results84, go_sem, *]) rfl ?_
    exact HDL.out
  · go_wp2_with fail
    refine (KD w1 HC1.out HB1.out).out.mono ?_
    rintro r w2 ⟨k1, t1, n1, ns1, L1, vn1, vk1, rfl, hd1, hc2, hg2, hw1⟩
    obtain ⟨xa1, xl1, xc1, ya1, yl1, yc1, rfl, rfl⟩ := zaq hd1.node
    have HN1w2 := zH (hd1.base (lo' := w.heap.size + 1) (by have := HZ1.out.size; omega)).ns
    have HW1 := zH hw1
    have HC2 := zH hc2
    have HB2 := zH (HB1.out.keep hg2)
    have HZ2 := zH (zam HZ1.out hg2 hne)
    have HG2 := zH (zab HG1.out hg2)
    generalize hE1 : E.mk k1 t1 n1 ns1 (trees L1) = e1 at *
    obtain ⟨rfl, rfl, rfl⟩ : k1 = e1.kind /\ t1 = e1.text /\ n1 = e1.num := by rw [<- hE1]; exact ⟨rfl, rfl, rfl⟩
    clear hE1 hd1 hc2 hg2 hw1
    go_wp2_with fail
    refine (pick_lit HC2.out HB2.out uns _ 3 rfl rfl (by decide) (by decide)).mono ?_
    rintro r w3 ⟨s, hs, rfl, hc3, hb3, hg3⟩
    have hsl := uns_le s hs
    clear hs
    have HC3 := zH hc3
    have HB3 := zH hb3
    have HZ3 := zH (zam HZ2.out hg3 hne)
    have HG3 := zH (zab HG2.out hg3)
    have HN1w3 := zH (NS.keep (zL _) (keptF_gr hg3 (Nat.lt_succ_of_lt hgl)) HN1w2.out)
    clear hc3 hb3 hg3
    have HN1v := HN1w3
    have HKV := zH (Kids5.nil (w.heap.size + 1) w3)
    have KS := zH (send_raw (s := s) HN1v.out.1 HKV.out (by simp))
    have HCV := HC3
    have HZV := HZ3
    have HGV := HG3
    go_wp2_with fail
    refine KS.out.mono ?_
    rintro r w4 ⟨vk', rfl, ho', hb'⟩
    have HOUT := zH (send_out (lo := w.heap.size + 1) (w := w3) (L := [(e1, .slice xa1 xl1 xc1, .slice ya1 yl1 yc1)]) (by have := HZV.out.size; omega) (by
      intro x hx
      rcases List.mem_cons.1 hx with rfl | hx
      · exact HN1v.out
      · cases hx) (by simp) ho' hb')
    obtain ⟨va, vc, rfl⟩ := Kit.zax ho'
    have HD : Hid (Dr (w.heap.size + 1) w4 6 s 0 [] [(e1, .slice xa1 xl1 xc1, .slice ya1 yl1 yc1)] (.slice none 0 0) _) := zH ⟨rfl, rfl, by unfold maxLen; omega, zas _ _, .inr HOUT.out, .inl rfl⟩
    have HW : Hid (weight (.mk 6 s 0 [] (trees [(e1, .slice xa1 xl1 xc1, .slice ya1 yl1 yc1)])) <= 3 * W + 20) := zH (by
      rw [zau]
      have e1 : weights (trees [(e1, .slice xa1 xl1 xc1, .slice ya1 yl1 yc1)]) = weight e1 := by simp [trees, weights]
      rw [e1]
      have := HW1.out
      show s.size + (0 + 0) + (1 + _) <= _
      omega)
    have HC := zH (curKeep HCV.out hb')
    have HG := zH (zav HGV.out hb')
    obtain ⟨hsz, z0, z1, z2, z3, z4, fz⟩ := HZV.out.step hb'
    clear ho' hb' KS
    go_wp2_with fail
    refine bodyPost_ret (v := .agg #[.int .i64 6, .string s, .int .i64 0, .slice none 0 0, .slice va (0 + 1) vc]) (by simp [results, Tryz.results84, go_sem, *]) rfl ?_
    exact zal HD.out HC.out HG.out hgl HW.out
  · go_wp2_with fail
    refine (KD w1 HC1.out HB1.out).out.mono ?_
    rintro r w2 ⟨k1, t1, n1, ns1, L1, vn1, vk1, rfl, hd1, hc2, hg2, hw1⟩
    obtain ⟨xa1, xl1, xc1, ya1, yl1, yc1, rfl, rfl⟩ := zaq hd1.node
    have HN1w2 := zH (hd1.base (lo' := w.heap.size + 1) (by have := HZ1.out.size; omega)).ns
    have HW1 := zH hw1
    have HC2 := zH hc2
    have HB2 := zH (HB1.out.keep hg2)
    have HZ2 := zH (zam HZ1.out hg2 hne)
    have HG2 := zH (zab HG1.out hg2)
    generalize hE1 : E.mk k1 t1 n1 ns1 (trees L1) = e1 at *
    obtain ⟨rfl, rfl, rfl⟩ : k1 = e1.kind /\ t1 = e1.text /\ n1 = e1.num := by rw [<- hE1]; exact ⟨rfl, rfl, rfl⟩
    clear hE1 hd1 hc2 hg2 hw1
    go_wp2_with fail
    refine (pick_lit HC2.out HB2.out bis _ 5 rfl rfl (by decide) (by decide)).mono ?_
    rintro r w3 ⟨s, hs, rfl, hc3, hb3, hg3⟩
    have hsl := bis_le s hs
    clear hs
    have HC3 := zH hc3
    have HB3 := zH hb3
    have HZ3 := zH (zam HZ2.out hg3 hne)
    have HG3 := zH (zab HG2.out hg3)
    have HN1w3 := zH (NS.keep (zL _) (keptF_gr hg3 (Nat.lt_succ_of_lt hgl)) HN1w2.out)
    clear hc3 hb3 hg3
    go_wp2_with fail
    refine (KD w3 HC3.out HB3.out).out.mono ?_
    rintro r w4 ⟨k2, t2, n2, ns2, L2, vn2, vk2, rfl, hd2, hc4, hg4, hw2⟩
    obtain ⟨xa2, xl2, xc2, ya2, yl2, yc2, rfl, rfl⟩ := zaq hd2.node
    have HN2w4 := zH (hd2.base (lo' := w.heap.size + 1) (by have := HZ3.out.size; omega)).ns
    have HW2 := zH hw2
    have HC4 := zH hc4
    have HB4 := zH (HB3.out.keep hg4)
    have HZ4 := zH (zam HZ3.out hg4 hne)
    have HG4 := zH (zab HG3.out hg4)
    have HN1w4 := zH (NS.keep (zL _) (keptF_gr hg4 (Nat.lt_succ_of_lt hgl)) HN1w3.out)
    generalize hE2 : E.mk k2 t2 n2 ns2 (trees L2) = e2 at *
    obtain ⟨rfl, rfl, rfl⟩ : k2 = e2.kind /\ t2 = e2.text /\ n2 = e2.num := by rw [<- hE2]; exact ⟨rfl, rfl, rfl⟩
    clear hE2 hd2 hc4 hg4 hw2
    have ho := lit_out (lo := w.heap.size + 1) (w := w4) (L := [(e2, .slice xa2 xl2 xc2, .slice ya2 yl2 yc2)]) #[.int .i64 e2.kind, .string e2.text, .int .i64 e2.num, .slice xa2 xl2 xc2, .slice ya2 yl2 yc2] rfl (by simp) (by simp) (by have := HZ4.out.size; omega) (by
      intro x hx
      simp only [List.mem_cons, List.not_mem_nil, or_false] at hx
      subst hx
      exact HN2w4.out)
    have HO := zH ho
    have hba := zad w4 (.cells #[.int .i64 e2.kind, .string e2.text, .int .i64 e2.num, .slice xa2 xl2 xc2, .slice ya2 yl2 yc2] 27)
    have HBA := zH hba
    clear ho
    have HN1v := zH (HN1w4.out.below hba)
    have HKV := zH HO.out.kids
    have KS := zH (send_raw (s := s) HN1v.out.1 HKV.out (by simp))
    have HCV := zH (curKeep HC4.out hba)
    have HZV := zH (HZ4.out.step hba)
    have HGV := zH (zav HG4.out hba)
    clear hba
    go_wp2_with fail
    refine KS.out.mono ?_
    rintro r w5 ⟨vk', rfl, ho', hb'⟩
    have HOUT := zH (send_out (lo := w.heap.size + 1) (w := (w4.alloc (.cells #[.int .i64 e2.kind, .string e2.text, .int .i64 e2.num, .slice xa2 xl2 xc2, .slice ya2 yl2 yc2] 27))) (L := [(e1, .slice xa1 xl1 xc1, .slice ya1 yl1 yc1), (e2, .slice xa2 xl2 xc2, .slice ya2 yl2 yc2)]) (by have := HZV.out.size; omega) (by
      intro x hx
      rcases List.mem_cons.1 hx with rfl | hx
      · exact HN1v.out
      · exact HO.out.all x hx) (by simp) ho' hb')
    obtain ⟨va, vc, rfl⟩ := Kit.zax ho'
    have HD : Hid (Dr (w.heap.size + 1) w5 6 s 0 [] [(e1, .slice xa1 xl1 xc1, .slice ya1 yl1 yc1), (e2, .slice xa2 xl2 xc2, .slice ya2 yl2 yc2)] (.slice none 0 0) _) := zH ⟨rfl, rfl, by unfold maxLen; omega, zas _ _, .inr HOUT.out, .inl rfl⟩
    have HW : Hid (weight (.mk 6 s 0 [] (trees [(e1, .slice xa1 xl1 xc1, .slice ya1 yl1 yc1), (e2, .slice xa2 xl2 xc2, .slice ya2 yl2 yc2)])) <= 3 * W + 20) := zH (by
      rw [zau]
      have e1 : weights (trees [(e1, .slice xa1 xl1 xc1, .slice ya1 yl1 yc1), (e2, .slice xa2 xl2 xc2, .slice ya2 yl2 yc2)]) = weight e1 + weight e2 := by simp [trees, weights]
      rw [e1]
      have := HW1.out; have := HW2.out
      show s.size + (0 + 0) + (2 + _) <= _
      omega)
    have HC := zH (curKeep HCV.out hb')
    have HG := zH (zav HGV.out hb')
    obtain ⟨hsz, z0, z1, z2, z3, z4, fz⟩ := HZV.out.step hb'
    clear ho' hb' KS
    go_wp2_with fail
    refine bodyPost_ret (v := .agg #[.int .i64 6, .string s, .int .i64 0, .slice none 0 0, .slice va (1 + 1) vc]) (by simp [results, Tryz.results84, go_sem, *]) rfl ?_
    exact zal HD.out HC.out HG.out hgl HW.out
  · go_wp2_with fail
    refine (KD w1 HC1.out HB1.out).out.mono ?_
    rintro r w2 ⟨k1, t1, n1, ns1, L1, vn1, vk1, rfl, hd1, hc2, hg2, hw1⟩
    obtain ⟨xa1, xl1, xc1, ya1, yl1, yc1, rfl, rfl⟩ := zaq hd1.node
    have HN1w2 := zH (hd1.base (lo' := w.heap.size + 1) (by have := HZ1.out.size; omega)).ns
    have HW1 := zH hw1
    have HC2 := zH hc2
    have HB2 := zH (HB1.out.keep hg2)
    have HZ2 := zH (zam HZ1.out hg2 hne)
    have HG2 := zH (zab HG1.out hg2)
    generalize hE1 : E.mk k1 t1 n1 ns1 (trees L1) = e1 at *
    obtain ⟨rfl, rfl, rfl⟩ : k1 = e1.kind /\ t1 = e1.text /\ n1 = e1.num := by rw [<- hE1]; exact ⟨rfl, rfl, rfl⟩
    clear hE1 hd1 hc2 hg2 hw1
    go_wp2_with fail
    refine (pick_lit HC2.out HB2.out bis _ 5 rfl rfl (by decide) (by decide)).mono ?_
    rintro r w3 ⟨s, hs, rfl, hc3, hb3, hg3⟩
    have hsl := bis_le s hs
    clear hs
    have HC3 := zH hc3
    have HB3 := zH hb3
    have HZ3 := zH (zam HZ2.out hg3 hne)
    have HG3 := zH (zab HG2.out hg3)
    have HN1w3 := zH (NS.keep (zL _) (keptF_gr hg3 (Nat.lt_succ_of_lt hgl)) HN1w2.out)
    clear hc3 hb3 hg3
    go_wp2_with fail
    refine (KD w3 HC3.out HB3.out).out.mono ?_
    rintro r w4 ⟨k2, t2, n2, ns2, L2, vn2, vk2, rfl, hd2, hc4, hg4, hw2⟩
    obtain ⟨xa2, xl2, xc2, ya2, yl2, yc2, rfl, rfl⟩ := zaq hd2.node
    have HN2w4 := zH (hd2.base (lo' := w.heap.size + 1) (by have := HZ3.out.size; omega)).ns
    have HW2 := zH hw2
    have HC4 := zH hc4
    have HB4 := zH (HB3.out.keep hg4)
    have HZ4 := zH (zam HZ3.out hg4 hne)
    have HG4 := zH (zab HG3.out hg4)
    have HN1w4 := zH (NS.keep (zL _) (keptF_gr hg4 (Nat.lt_succ_of_lt hgl)) HN1w3.out)
    generalize hE2 : E.mk k2 t2 n2 ns2 (trees L2) = e2 at *
    obtain ⟨rfl, rfl, rfl⟩ : k2 = e2.kind /\ t2 = e2.text /\ n2 = e2.num := by rw [<- hE2]; exact ⟨rfl, rfl, rfl⟩
    clear hE2 hd2 hc4 hg4 hw2
    have ho := lit_out (lo := w.heap.size + 1) (w := w4) (L := [(e2, .slice xa2 xl2 xc2, .slice ya2 yl2 yc2)]) #[.int .i64 e2.kind, .string e2.text, .int .i64 e2.num, .slice xa2 xl2 xc2, .slice ya2 yl2 yc2] rfl (by simp) (by simp) (by have := HZ4.out.size; omega) (by
      intro x hx
      simp only [List.mem_cons, List.not_mem_nil, or_false] at hx
      subst hx
      exact HN2w4.out)
    have HO := zH ho
    have hba := zad w4 (.cells #[.int .i64 e2.kind, .string e2.text, .int .i64 e2.num, .slice xa2 xl2 xc2, .slice ya2 yl2 yc2] 27)
    have HBA := zH hba
    clear ho
    have HN1v := zH (HN1w4.out.below hba)
    have HKV := zH HO.out.kids
    have KS := zH (send_raw (s := s) HN1v.out.1 HKV.out (by simp))
    have HCV := zH (curKeep HC4.out hba)
    have HZV := zH (HZ4.out.step hba)
    have HGV := zH (zav HG4.out hba)
    clear hba
    go_wp2_with fail
    refine KS.out.mono ?_
    rintro r w5 ⟨vk', rfl, ho', hb'⟩
    have HOUT := zH (send_out (lo := w.heap.size + 1) (w := (w4.alloc (.cells #[.int .i64 e2.kind, .string e2.text, .int .i64 e2.num, .slice xa2 xl2 xc2, .slice ya2 yl2 yc2] 27))) (L := [(e1, .slice xa1 xl1 xc1, .slice ya1 yl1 yc1), (e2, .slice xa2 xl2 xc2, .slice ya2 yl2 yc2)]) (by have := HZV.out.size; omega) (by
      intro x hx
      rcases List.mem_cons.1 hx with rfl | hx
      · exact HN1v.out
      · exact HO.out.all x hx) (by simp) ho' hb')
    obtain ⟨va, vc, rfl⟩ := Kit.zax ho'
    have HD : Hid (Dr (w.heap.size + 1) w5 6 s 0 [] [(e1, .slice xa1 xl1 xc1, .slice ya1 yl1 yc1), (e2, .slice xa2 xl2 xc2, .slice ya2 yl2 yc2)] (.slice none 0 0) _) := zH ⟨rfl, rfl, by unfold maxLen; omega, zas _ _, .inr HOUT.out, .inl rfl⟩
    have HW : Hid (weight (.mk 6 s 0 [] (trees [(e1, .slice xa1 xl1 xc1, .slice ya1 yl1 yc1), (e2, .slice xa2 xl2 xc2, .slice ya2 yl2 yc2)])) <= 3 * W + 20) := zH (by
      rw [zau]
      have e1 : weights (trees [(e1, .slice xa1 xl1 xc1, .slice ya1 yl1 yc1), (e2, .slice xa2 xl2 xc2, .slice ya2 yl2 yc2)]) = weight e1 + weight e2 := by simp [trees, weights]
      rw [e1]
      have := HW1.out; have := HW2.out
      show s.size + (0 + 0) + (2 + _) <= _
      omega)
    have HC := zH (curKeep HCV.out hb')
    have HG := zH (zav HGV.out hb')
    obtain ⟨hsz, z0, z1, z2, z3, z4, fz⟩ := HZV.out.step hb'
    clear ho' hb' KS
    go_wp2_with fail
    refine bodyPost_ret (v := .agg #[.int .i64 6, .string s, .int .i64 0, .slice none 0 0, .slice va (1 + 1) vc]) (by simp [results, Tryz.results84, go_sem, *]) rfl ?_
    exact zal HD.out HC.out HG.out hgl HW.out
  · have KO := zH (once_any 2 (by decide) (by decide) HC1.out HB1.out)
    go_wp2_with fail
    refine KO.out.mono ?_
    rintro r w2 ⟨x, rfl, hc2, hb2, hg2⟩
    have HC2 := zH hc2
    have HB2 := zH hb2
    have HZ2 := zH (zam HZ1.out hg2 hne)
    have HG2 := zH (zab HG1.out hg2)
    clear hc2 hb2 hg2 KO
    cases x with
    | true =>
      go_wp2_with fail
      refine (KD w2 HC2.out HB2.out).out.mono ?_
      rintro r w3 ⟨k1, t1, n1, ns1, L1, vn1, vk1, rfl, hd1, hc3, hg3, hw1⟩
      obtain ⟨xa1, xl1, xc1, ya1, yl1, yc1, rfl, rfl⟩ := zaq hd1.node
      have HN1w3 := zH (hd1.base (lo' := w.heap.size + 1) (by have := HZ2.out.size; omega)).ns
      have HW1 := zH hw1
      have HC3 := zH hc3
      have HB3 := zH (HB2.out.keep hg3)
      have HZ3 := zH (zam HZ2.out hg3 hne)
      have HG3 := zH (zab HG2.out hg3)
      generalize hE1 : E.mk k1 t1 n1 ns1 (trees L1) = e1 at *
      obtain ⟨rfl, rfl, rfl⟩ : k1 = e1.kind /\ t1 = e1.text /\ n1 = e1.num := by rw [<- hE1]; exact ⟨rfl, rfl, rfl⟩
      clear hE1 hd1 hc3 hg3 hw1
      go_wp2_with fail
      refine (KD w3 HC3.out HB3.out).out.mono ?_
      rintro r w4 ⟨k2, t2, n2, ns2, L2, vn2, vk2, rfl, hd2, hc4, hg4, hw2⟩
      obtain ⟨xa2, xl2, xc2, ya2, yl2, yc2, rfl, rfl⟩ := zaq hd2.node
      have HN2w4 := zH (hd2.base (lo' := w.heap.size + 1) (by have := HZ3.out.size; omega)).ns
      have HW2 := zH hw2
      have HC4 := zH hc4
      have HB4 := zH (HB3.out.keep hg4)
      have HZ4 := zH (zam HZ3.out hg4 hne)
      have HG4 := zH (zab HG3.out hg4)
      have HN1w4 := zH (NS.keep (zL _) (keptF_gr hg4 (Nat.lt_succ_of_lt hgl)) HN1w3.out)
      generalize hE2 : E.mk k2 t2 n2 ns2 (trees L2) = e2 at *
      obtain ⟨rfl, rfl, rfl⟩ : k2 = e2.kind /\ t2 = e2.text /\ n2 = e2.num := by rw [<- hE2]; exact ⟨rfl, rfl, rfl⟩
      clear hE2 hd2 hc4 hg4 hw2
      go_wp2_with fail
      refine (KD w4 HC4.out HB4.out).out.mono ?_
      rintro r w5 ⟨k3, t3, n3, ns3, L3, vn3, vk3, rfl, hd3, hc5, hg5, hw3⟩
      obtain ⟨xa3, xl3, xc3, ya3, yl3, yc3, rfl, rfl⟩ := zaq hd3.node
      have HN3w5 := zH (hd3.base (lo' := w.heap.size + 1) (by have := HZ4.out.size; omega)).ns
      have HW3 := zH hw3
      have HC5 := zH hc5
      have HB5 := zH (HB4.out.keep hg5)
      have HZ5 := zH (zam HZ4.out hg5 hne)
      have HG5 := zH (zab HG4.out hg5)
      have HN1w5 := zH (NS.keep (zL _) (keptF_gr hg5 (Nat.lt_succ_of_lt hgl)) HN1w4.out)
      have HN2w5 := zH (NS.keep (zL _) (keptF_gr hg5 (Nat.lt_succ_of_lt hgl)) HN2w4.out)
      generalize hE3 : E.mk k3 t3 n3 ns3 (trees L3) = e3 at *
      obtain ⟨rfl, rfl, rfl⟩ : k3 = e3.kind /\ t3 = e3.text /\ n3 = e3.num := by rw [<- hE3]; exact ⟨rfl, rfl, rfl⟩
      clear hE3 hd3 hc5 hg5 hw3
      have ho := lit_out (lo := w.heap.size + 1) (w := w5) (L := [(e2, .slice xa2 xl2 xc2, .slice ya2 yl2 yc2), (e3, .slice xa3 xl3 xc3, .slice ya3 yl3 yc3)]) #[.int .i64 e2.kind, .string e2.text, .int .i64 e2.num, .slice xa2 xl2 xc2, .slice ya2 yl2 yc2, .int .i64 e3.kind, .string e3.text, .int .i64 e3.num, .slice xa3 xl3 xc3, .slice ya3 yl3 yc3] rfl (by simp) (by simp) (by have := HZ5.out.size; omega) (by
        intro x hx
        simp only [List.mem_cons, List.not_mem_nil, or_false] at hx
        rcases hx with rfl | rfl
        · exact HN2w5.out
        · exact HN3w5.out)
      have HO := zH ho
      have hba := zad w5 (.cells #[.int .i64 e2.kind, .string e2.text, .int .i64 e2.num, .slice xa2 xl2 xc2, .slice ya2 yl2 yc2, .int .i64 e3.kind, .string e3.text, .int .i64 e3.num, .slice xa3 xl3 xc3, .slice ya3 yl3 yc3] 27)
      have HBA := zH hba
      clear ho
      have HN1v := zH (HN1w5.out.below hba)
      have HKV := zH HO.out.kids
      have KS := zH (send_raw (s := ⟨#[97, 116, 58, 112, 117, 116, 58]⟩) HN1v.out.1 HKV.out (by simp))
      have HCV := zH (curKeep HC5.out hba)
      have HZV := zH (HZ5.out.step hba)
      have HGV := zH (zav HG5.out hba)
      clear hba
      go_wp2_with fail
      refine KS.out.mono ?_
      rintro r w6 ⟨vk', rfl, ho', hb'⟩
      have HOUT := zH (send_out (lo := w.heap.size + 1) (w := (w5.alloc (.cells #[.int .i64 e2.kind, .string e2.text, .int .i64 e2.num, .slice xa2 xl2 xc2, .slice ya2 yl2 yc2, .int .i64 e3.kind, .string e3.text, .int .i64 e3.num, .slice xa3 xl3 xc3, .slice ya3 yl3 yc3] 27))) (L := [(e1, .slice xa1 xl1 xc1, .slice ya1 yl1 yc1), (e2, .slice xa2 xl2 xc2, .slice ya2 yl2 yc2), (e3, .slice xa3 xl3 xc3, .slice ya3 yl3 yc3)]) (by have := HZV.out.size; omega) (by
        intro x hx
        rcases List.mem_cons.1 hx with rfl | hx
        · exact HN1v.out
        · exact HO.out.all x hx) (by simp) ho' hb')
      obtain ⟨va, vc, rfl⟩ := Kit.zax ho'
      have HD : Hid (Dr (w.heap.size + 1) w6 6 ⟨#[97, 116, 58, 112, 117, 116, 58]⟩ 0 [] [(e1, .slice xa1 xl1 xc1, .slice ya1 yl1 yc1), (e2, .slice xa2 xl2 xc2, .slice ya2 yl2 yc2), (e3, .slice xa3 xl3 xc3, .slice ya3 yl3 yc3)] (.slice none 0 0) _) := zH ⟨rfl, rfl, by unfold maxLen; decide, zas _ _, .inr HOUT.out, .inl rfl⟩
      have HW : Hid (weight (.mk 6 ⟨#[97, 116, 58, 112, 117, 116, 58]⟩ 0 [] (trees [(e1, .slice xa1 xl1 xc1, .slice ya1 yl1 yc1), (e2, .slice xa2 xl2 xc2, .slice ya2 yl2 yc2), (e3, .slice xa3 xl3 xc3, .slice ya3 yl3 yc3)])) <= 3 * W + 20) := zH (by
        rw [zau]
        have e1 : weights (trees [(e1, .slice xa1 xl1 xc1, .slice ya1 yl1 yc1), (e2, .slice xa2 xl2 xc2, .slice ya2 yl2 yc2), (e3, .slice xa3 xl3 xc3, .slice ya3 yl3 yc3)]) = weight e1 + weight e2 + weight e3 := by simp [trees, weights]; omega
        rw [e1]
        have := HW1.out; have := HW2.out; have := HW3.out
        show (⟨#[97, 116, 58, 112, 117, 116, 58]⟩ : ByteArray).size + (0 + 0) + (3 + _) <= _
        have : (⟨#[97, 116, 58, 112, 117, 116, 58]⟩ : ByteArray).size = 7 := rfl; omega)
      have HC := zH (curKeep HCV.out hb')
      have HG := zH (zav HGV.out hb')
      obtain ⟨hsz, z0, z1, z2, z3, z4, fz⟩ := HZV.out.step hb'
      clear ho' hb' KS
      go_wp2_with fail
      refine bodyPost_ret (v := .agg #[.int .i64 6, .string ⟨#[97, 116, 58, 112, 117, 116, 58]⟩, .int .i64 0, .slice none 0 0, .slice va (2 + 1) vc]) (by simp [results, Tryz.results84, go_sem, *]) rfl ?_
      exact zal HD.out HC.out HG.out hgl HW.out
    | false =>
      go_wp2_with fail
      refine (KD w2 HC2.out HB2.out).out.mono ?_
      rintro r w3 ⟨k1, t1, n1, ns1, L1, vn1, vk1, rfl, hd1, hc3, hg3, hw1⟩
      obtain ⟨xa1, xl1, xc1, ya1, yl1, yc1, rfl, rfl⟩ := zaq hd1.node
      have HN1w3 := zH (hd1.base (lo' := w.heap.size + 1) (by have := HZ2.out.size; omega)).ns
      have HW1 := zH hw1
      have HC3 := zH hc3
      have HB3 := zH (HB2.out.keep hg3)
      have HZ3 := zH (zam HZ2.out hg3 hne)
      have HG3 := zH (zab HG2.out hg3)
      generalize hE1 : E.mk k1 t1 n1 ns1 (trees L1) = e1 at *
      obtain ⟨rfl, rfl, rfl⟩ : k1 = e1.kind /\ t1 = e1.text /\ n1 = e1.num := by rw [<- hE1]; exact ⟨rfl, rfl, rfl⟩
      clear hE1 hd1 hc3 hg3 hw1
      go_wp2_with fail
      refine (pick_lit HC3.out HB3.out kws _ 3 rfl rfl (by decide) (by decide)).mono ?_
      rintro r w4 ⟨s, hs, rfl, hc4, hb4, hg4⟩
      have hsl := kws_le s hs
      clear hs
      have HC4 := zH hc4
      have HB4 := zH hb4
      have HZ4 := zH (zam HZ3.out hg4 hne)
      have HG4 := zH (zab HG3.out hg4)
      have HN1w4 := zH (NS.keep (zL _) (keptF_gr hg4 (Nat.lt_succ_of_lt hgl)) HN1w3.out)
      clear hc4 hb4 hg4
      go_wp2_with fail
      refine (KD w4 HC4.out HB4.out).out.mono ?_
      rintro r w5 ⟨k2, t2, n2, ns2, L2, vn2, vk2, rfl, hd2, hc5, hg5, hw2⟩
      obtain ⟨xa2, xl2, xc2, ya2, yl2, yc2, rfl, rfl⟩ := zaq hd2.node
      have HN2w5 := zH (hd2.base (lo' := w.heap.size + 1) (by have := HZ4.out.size; omega)).ns
      have HW2 := zH hw2
      have HC5 := zH hc5
      have HB5 := zH (HB4.out.keep hg5)
      have HZ5 := zH (zam HZ4.out hg5 hne)
      have HG5 := zH (zab HG4.out hg5)
      have HN1w5 := zH (NS.keep (zL _) (keptF_gr hg5 (Nat.lt_succ_of_lt hgl)) HN1w4.out)
      generalize hE2 : E.mk k2 t2 n2 ns2 (trees L2) = e2 at *
      obtain ⟨rfl, rfl, rfl⟩ : k2 = e2.kind /\ t2 = e2.text /\ n2 = e2.num := by rw [<- hE2]; exact ⟨rfl, rfl, rfl⟩
      clear hE2 hd2 hc5 hg5 hw2
      have ho := lit_out (lo := w.heap.size + 1) (w := w5) (L := [(e2, .slice xa2 xl2 xc2, .slice ya2 yl2 yc2)]) #[.int .i64 e2.kind, .string e2.text, .int .i64 e2.num, .slice xa2 xl2 xc2, .slice ya2 yl2 yc2] rfl (by simp) (by simp) (by have := HZ5.out.size; omega) (by
        intro x hx
        simp only [List.mem_cons, List.not_mem_nil, or_false] at hx
        subst hx
        exact HN2w5.out)
      have HO := zH ho
      have hba := zad w5 (.cells #[.int .i64 e2.kind, .string e2.text, .int .i64 e2.num, .slice xa2 xl2 xc2, .slice ya2 yl2 yc2] 27)
      have HBA := zH hba
      clear ho
      have HN1v := zH (HN1w5.out.below hba)
      have HKV := zH HO.out.kids
      have KS := zH (send_raw (s := s) HN1v.out.1 HKV.out (by simp))
      have HCV := zH (curKeep HC5.out hba)
      have HZV := zH (HZ5.out.step hba)
      have HGV := zH (zav HG5.out hba)
      clear hba
      go_wp2_with fail
      refine KS.out.mono ?_
      rintro r w6 ⟨vk', rfl, ho', hb'⟩
      have HOUT := zH (send_out (lo := w.heap.size + 1) (w := (w5.alloc (.cells #[.int .i64 e2.kind, .string e2.text, .int .i64 e2.num, .slice xa2 xl2 xc2, .slice ya2 yl2 yc2] 27))) (L := [(e1, .slice xa1 xl1 xc1, .slice ya1 yl1 yc1), (e2, .slice xa2 xl2 xc2, .slice ya2 yl2 yc2)]) (by have := HZV.out.size; omega) (by
        intro x hx
        rcases List.mem_cons.1 hx with rfl | hx
        · exact HN1v.out
        · exact HO.out.all x hx) (by simp) ho' hb')
      obtain ⟨va, vc, rfl⟩ := Kit.zax ho'
      have HD : Hid (Dr (w.heap.size + 1) w6 6 s 0 [] [(e1, .slice xa1 xl1 xc1, .slice ya1 yl1 yc1), (e2, .slice xa2 xl2 xc2, .slice ya2 yl2 yc2)] (.slice none 0 0) _) := zH ⟨rfl, rfl, by unfold maxLen; omega, zas _ _, .inr HOUT.out, .inl rfl⟩
      have HW : Hid (weight (.mk 6 s 0 [] (trees [(e1, .slice xa1 xl1 xc1, .slice ya1 yl1 yc1), (e2, .slice xa2 xl2 xc2, .slice ya2 yl2 yc2)])) <= 3 * W + 20) := zH (by
        rw [zau]
        have e1 : weights (trees [(e1, .slice xa1 xl1 xc1, .slice ya1 yl1 yc1), (e2, .slice xa2 xl2 xc2, .slice ya2 yl2 yc2)]) = weight e1 + weight e2 := by simp [trees, weights]
        rw [e1]
        have := HW1.out; have := HW2.out
        show s.size + (0 + 0) + (2 + _) <= _
        omega)
      have HC := zH (curKeep HCV.out hb')
      have HG := zH (zav HGV.out hb')
      obtain ⟨hsz, z0, z1, z2, z3, z4, fz⟩ := HZV.out.step hb'
      clear ho' hb' KS
      go_wp2_with fail
      refine bodyPost_ret (v := .agg #[.int .i64 6, .string s, .int .i64 0, .slice none 0 0, .slice va (1 + 1) vc]) (by simp [results, Tryz.results84, go_sem, *]) rfl ?_
      exact zal HD.out HC.out HG.out hgl HW.out
  · go_wp2_with fail
    refine (KD w1 HC1.out HB1.out).out.mono ?_
    rintro r w2 ⟨k1, t1, n1, ns1, L1, vn1, vk1, rfl, hd1, hc2, hg2, hw1⟩
    obtain ⟨xa1, xl1, xc1, ya1, yl1, yc1, rfl, rfl⟩ := zaq hd1.node
    have HN1w2 := zH (hd1.base (lo' := w.heap.size + 1) (by have := HZ1.out.size; omega)).ns
    have HW1 := zH hw1
    have HC2 := zH hc2
    have HB2 := zH (HB1.out.keep hg2)
    have HZ2 := zH (zam HZ1.out hg2 hne)
    have HG2 := zH (zab HG1.out hg2)
    generalize hE1 : E.mk k1 t1 n1 ns1 (trees L1) = e1 at *
    obtain ⟨rfl, rfl, rfl⟩ : k1 = e1.kind /\ t1 = e1.text /\ n1 = e1.num := by rw [<- hE1]; exact ⟨rfl, rfl, rfl⟩
    clear hE1 hd1 hc2 hg2 hw1
    go_wp2_with fail
    refine (KD w2 HC2.out HB2.out).out.mono ?_
    rintro r w3 ⟨k2, t2, n2, ns2, L2, vn2, vk2, rfl, hd2, hc3, hg3, hw2⟩
    obtain ⟨xa2, xl2, xc2, ya2, yl2, yc2, rfl, rfl⟩ := zaq hd2.node
    have HN2w3 := zH (hd2.base (lo' := w.heap.size + 1) (by have := HZ2.out.size; omega)).ns
    have HW2 := zH hw2
    have HC3 := zH hc3
    have HB3 := zH (HB2.out.keep hg3)
    have HZ3 := zH (zam HZ2.out hg3 hne)
    have HG3 := zH (zab HG2.out hg3)
    have HN1w3 := zH (NS.keep (zL _) (keptF_gr hg3 (Nat.lt_succ_of_lt hgl)) HN1w2.out)
    generalize hE2 : E.mk k2 t2 n2 ns2 (trees L2) = e2 at *
    obtain ⟨rfl, rfl, rfl⟩ : k2 = e2.kind /\ t2 = e2.text /\ n2 = e2.num := by rw [<- hE2]; exact ⟨rfl, rfl, rfl⟩
    clear hE2 hd2 hc3 hg3 hw2
    have ho := lit_out (lo := w.heap.size + 1) (w := w3) (L := [(e2, .slice xa2 xl2 xc2, .slice ya2 yl2 yc2)]) #[.int .i64 e2.kind, .string e2.text, .int .i64 e2.num, .slice xa2 xl2 xc2, .slice ya2 yl2 yc2] rfl (by simp) (by simp) (by have := HZ3.out.size; omega) (by
      intro x hx
      simp only [List.mem_cons, List.not_mem_nil, or_false] at hx
      subst hx
      exact HN2w3.out)
    have HO := zH ho
    have hba := zad w3 (.cells #[.int .i64 e2.kind, .string e2.text, .int .i64 e2.num, .slice xa2 xl2 xc2, .slice ya2 yl2 yc2] 27)
    have HBA := zH hba
    clear ho
    have hn1 := HN1w3.out.below hba
    have hm1 : NS (w.heap.size + 1) (w3.alloc (.cells #[.int .i64 e2.kind, .string e2.text, .int .i64 e2.num, .slice xa2 xl2 xc2, .slice ya2 yl2 yc2] 27)) (.mk 6 ⟨#[115, 105, 122, 101]⟩ 0 [] []) (.slice none 0 0) (.slice none 0 0) := ns_nil _ _ rfl (by decide)
    have hm2 : NS (w.heap.size + 1) (w3.alloc (.cells #[.int .i64 e2.kind, .string e2.text, .int .i64 e2.num, .slice xa2 xl2 xc2, .slice ya2 yl2 yc2] 27)) (.mk 6 ⟨#[43]⟩ 0 [] [e2]) (.slice none 0 0) (.slice (some ⟨w3.heap.size, 0, none⟩) 1 1) := ns_out (L := [(e2, .slice xa2 xl2 xc2, .slice ya2 yl2 yc2)]) rfl (by show (⟨#[43]⟩ : ByteArray).size <= maxLen; decide) HO.out
    have HW : Hid (weight (.mk 7 ⟨#[]⟩ 0 [] (trees [(e1, .slice xa1 xl1 xc1, .slice ya1 yl1 yc1), (.mk 6 ⟨#[115, 105, 122, 101]⟩ 0 [] [], .slice none 0 0, .slice none 0 0), (.mk 6 ⟨#[43]⟩ 0 [] [e2], .slice none 0 0, .slice (some ⟨w3.heap.size, 0, none⟩) 1 1)])) <= 3 * W + 20) := zH (by
      rw [zau]
      have e1 : weights (trees [(e1, .slice xa1 xl1 xc1, .slice ya1 yl1 yc1), (.mk 6 ⟨#[115, 105, 122, 101]⟩ 0 [] [], .slice none 0 0, .slice none 0 0), (.mk 6 ⟨#[43]⟩ 0 [] [e2], .slice none 0 0, .slice (some ⟨w3.heap.size, 0, none⟩) 1 1)]) = weight e1 + (4 + (2 + weight e2)) := by
        show weight e1 + (weight (.mk 6 ⟨#[115, 105, 122, 101]⟩ 0 [] []) + (weight (.mk 6 ⟨#[43]⟩ 0 [] [e2]) + 0)) = _
        rw [weight, weight]
        show weight e1 + ((4 + (0 + 0) + (0 + 0)) + ((1 + (0 + 0) + (1 + (weight e2 + 0))) + 0)) = _
        omega
      rw [e1]
      have := HW1.out; have := HW2.out
      show 0 + (0 + 0) + (3 + _) <= _
      omega)
    have hsz3 : (w3.alloc (.cells #[.int .i64 e2.kind, .string e2.text, .int .i64 e2.num, .slice xa2 xl2 xc2, .slice ya2 yl2 yc2] 27)).heap.size = w3.heap.size + 1 := by simp
    have hdl := drawn_lit (g := g) (w := w) (w1 := (w3.alloc (.cells #[.int .i64 e2.kind, .string e2.text, .int .i64 e2.num, .slice xa2 xl2 xc2, .slice ya2 yl2 yc2] 27))) (k := 7) (t := ⟨#[]⟩) (L := [(e1, .slice xa1 xl1 xc1, .slice ya1 yl1 yc1), (.mk 6 ⟨#[115, 105, 122, 101]⟩ 0 [] [], .slice none 0 0, .slice none 0 0), (.mk 6 ⟨#[43]⟩ 0 [] [e2], .slice none 0 0, .slice (some ⟨w3.heap.size, 0, none⟩) 1 1)]) #[.int .i64 e1.kind, .string e1.text, .int .i64 e1.num, .slice xa1 xl1 xc1, .slice ya1 yl1 yc1, .int .i64 6, .string ⟨#[115, 105, 122, 101]⟩, .int .i64 0, .slice none 0 0, .slice none 0 0, .int .i64 6, .string ⟨#[43]⟩, .int .i64 0, .slice none 0 0, .slice (some ⟨w3.heap.size, 0, none⟩) 1 1] rfl (by simp) (by simp) (by
      intro x hx
      simp only [List.mem_cons, List.not_mem_nil, or_false] at hx
      rcases hx with rfl | rfl | rfl
      · exact hn1
      · exact hm1
      · exact hm2) rfl (by decide) (by rw [hsz3]; have := HZ3.out.size; omega) (curKeep HC3.out hba) (zav HG3.out hba) hgl HW.out
    rw [hsz3, put5_alloc _ _ HZ3.out.size] at hdl
    have HDL := zH hdl
    clear hdl hba hn1 hm1 hm2 hsz3
    obtain ⟨hsz, z0, z1, z2, z3, z4, fz⟩ := HZ3.out
    go_wp2_with fail
    refine bodyPost_ret (v := .agg #[.int .i64 7, .string ⟨#[]⟩, .int .i64 0, .slice none 0 0, .slice (some ⟨w3.heap.size + 1, 0, none⟩) 3 3]) (by simp [results, Tryz.results84, go_sem, *]) rfl ?_
    exact HDL.out
  · have hba := zad w1 (.cells #[] 27)
    have KB3 := zH (below_keep 3 (by decide) (by decide) (curKeep HC1.out hba) (bytesKeep HB1.out hba))
    have HO1 := zH (Out.new w1)
    have HG1b := zH (zav HG1.out hba)
    have HZ1b := zH (HZ1.out.step hba)
    have hB1 := HZ1.out.size
    have hgB : g < w1.heap.size := by omega
    clear hba
    go_wp2_with fail
    refine KB3.out.mono ?_
    rintro r w2 ⟨n, rfl, hn0, hn1, hc2, hb2, hg2⟩
    obtain ⟨N, rfl⟩ := Int.eq_ofNat_of_zero_le hn0
    have hN3 : N <= 2 := by omega
    have HO2 := zH (out_gr HO1.out hg2 hgB)
    have HC2 := zH hc2
    have HG2 := zH (zab HG1b.out hg2)
    have HZ2 := zH (zam HZ1b.out hg2 hne)
    have hsz2 : w1.heap.size <= w2.heap.size := by have := hg2.size; simp at this; omega
    have HBS2 := zH hsz2
    clear hn0 hn1 hc2 hb2 hg2 KB3 hsz2 HO1 HG1b HZ1b HZ1 HC1 HB1
    go_wp2_with fail
    go_loopw [6, 8] (fun v j wr => ∃ (i : Nat) (L : List Parser.Item), i <= N /\ j = .int .i64 i /\ L.length = i /\ weights (trees L) <= i * W /\ Out w1.heap.size wr L v /\ Cur wr g a len cap /\ w.grownBy wr (some g) /\ Zero w.heap.size wr /\ w1.heap.size <= wr.heap.size) (fun _ j _ => N - (intOf j).toNat)
    case atStart => exact ⟨0, [], Nat.zero_le _, rfl, rfl, by simp [trees, weights], HO2.out, HC2.out, HG2.out, HZ2.out, HBS2.out⟩
    case round =>
      clear HO2 HC2 HG2 HZ2 HBS2
      obtain ⟨i, L, hiN, rfl, hLi, hwL, ho, hc, hg, hz, hbs⟩ := hrel
      have HO := zH ho
      have HC := zH hc
      have HG := zH hg
      have HZ := zH hz
      have HBS := zH hbs
      have HWL := zH hwL
      obtain ⟨va, vc, rfl⟩ := ho.form
      have hLl2 : L.length <= 2 := by omega
      have HLI := zH hLi
      clear ho hc hg hz hbs hwL hLi
      by_cases hlt : i < N
      · have hL900 : L.length <= 900 := by omega
        go_wp2_with fail
        refine (KD wr HC.out (HBI.out.keep HG.out)).out.mono ?_
        rintro r w4 ⟨k1, t1, n1, ns1, L1, vn1, vk1, rfl, hd1, hc4, hg4, hw1⟩
        obtain ⟨xa1, xl1, xc1, ya1, yl1, yc1, rfl, rfl⟩ := zaq hd1.node
        have HNODE := zH hd1.ns
        have HW1 := zH hw1
        have HC4 := zH hc4
        have HG4 := zH (zab HG.out hg4)
        have HZ4 := zH (zam HZ.out hg4 hne)
        have HO4a := zH (out_gr HO.out hg4 hgB)
        have HBL := zH (fun k hk => (HO.out.own.lt k hk).2)
        have HBS4 := zH (Nat.le_trans HBS.out hg4.size)
        have hb4 : w1.heap.size <= w4.heap.size := HBS4.out
        generalize hE1 : E.mk k1 t1 n1 ns1 (trees L1) = e1 at *
        obtain ⟨rfl, rfl, rfl⟩ : k1 = e1.kind /\ t1 = e1.text /\ n1 = e1.num := by rw [<- hE1]; exact ⟨rfl, rfl, rfl⟩
        clear hE1 hd1 hc4 hg4 hw1
        have HO4 := HO4a
        go_wp2_with (at_builtin; go_must (refine wpList_append_own_at _ rfl _ _ 25 rfl w1.heap.size 27 i0 (.agg #[.int .i64 0, .string ByteArray.empty, .int .i64 0, .slice none 0 0, .slice none 0 0]) 5 80 Tryz.underlying25 hi hz0 hz1 hz2 rfl (by decide) _ L.length (row5 L) rfl (HO4.out.below ((zB _ _).alloc (zL _) _)).own ⟨w4.heap.size, 0, none⟩ 1 1 (row5 [(e1, .slice xa1 xl1 xc1, .slice ya1 yl1 yc1)]) rfl rfl ?c1 ?c2 ?c3 ?c4 ?c5 ?_))
        case c1 => exact five_cells w4 (e1, .slice xa1 xl1 xc1, .slice ya1 yl1 yc1) _
        case c2 => exact all_one (w := w4) (L := [(e1, .slice xa1 xl1 xc1, .slice ya1 yl1 yc1)]) (fun y hy => by rw [List.mem_singleton.1 hy]; exact HNODE.out.1)
        case c3 => unfold maxLen; omega
        case c4 => omega
        case c5 => simp; omega
        intro v5 w5 hown hgr hnn hat
        have HO5 : Hid (Out w1.heap.size w5 (L ++ [(e1, .slice xa1 xl1 xc1, .slice ya1 yl1 yc1)]) v5) := zH (HO4.out.app (l1 := wr.heap.size) HNODE.out HBS.out HBL.out hown hgr hat hnn)
        have hlow := app_low (base := w1.heap.size) hb4 HO4.out.own hgr
        have HC5 := zH (cur_low HC4.out hlow hgB)
        have HG5 := zH (gr_low HG4.out (hlow.mono (by omega)))
        have HZ5 := zH (HZ4.out.low hlow hB1)
        have HBS5 := zH (Nat.le_trans hb4 hlow.size)
        clear hown hgr hnn hat hlow
        go_wp2_with fail
        go_roundw
        case rel =>
          refine ⟨i + 1, L ++ [(e1, .slice xa1 xl1 xc1, .slice ya1 yl1 yc1)], hlt, by go_num, by rw [List.length_append, HLI.out]; rfl, ?_, HO5.out, HC5.out, HG5.out, HZ5.out, HBS5.out⟩
          rw [trees_append, za1]
          have := HWL.out; have := HW1.out
          show _ + (weight e1 + 0) <= _
          rw [Nat.add_mul]; omega
        case measure => simp [intOf]; omega
      · have hWL : weights (trees L) <= 2 * W := Nat.le_trans HWL.out (Nat.mul_le_mul_right W (by omega))
        have HWL2 := zH hWL
        clear hWL HWL
        have hLl : L.length <= 2 := hLl2
        have KO4 := zH (once_any 4 (by decide) (by decide) HC.out (HBI.out.keep HG.out))
        go_wp2_with fail
        refine KO4.out.mono ?_
        rintro r w3 ⟨ret, rfl, hc3, hb3, hg3⟩
        have HC3 := zH hc3
        have HG3 := zH (zab HG.out hg3)
        have HZ3 := zH (zam HZ.out hg3 hne)
        have HO3 := zH (out_gr HO.out hg3 hgB)
        have HBS3 := zH (Nat.le_trans HBS.out hg3.size)
        clear hc3 hb3 hg3 KO4 HC HG HZ HO HBS
        cases ret with
        | true =>
          have hL900 : L.length <= 900 := by omega
          go_wp2_with fail
          refine (KD w3 HC3.out (HBI.out.keep HG3.out)).out.mono ?_
          rintro r w4 ⟨k1, t1, n1, ns1, L1, vn1, vk1, rfl, hd1, hc4, hg4, hw1⟩
          have HSZ34 := zH hg4.size
          obtain ⟨xa1, xl1, xc1, ya1, yl1, yc1, rfl, rfl⟩ := zaq hd1.node
          have HNODE := zH hd1.ns
          have HW1 := zH hw1
          have HC4 := zH hc4
          have HG4 := zH (zab HG3.out hg4)
          have HZ4 := zH (zam HZ3.out hg4 hne)
          have HO4a := zH (out_gr HO3.out hg4 hgB)
          have HBL := zH (fun k hk => (HO3.out.own.lt k hk).2)
          have HBS4 := zH (Nat.le_trans HBS3.out hg4.size)
          have hb4 : w1.heap.size <= w4.heap.size := HBS4.out
          generalize hE1 : E.mk k1 t1 n1 ns1 (trees L1) = e1 at *
          obtain ⟨rfl, rfl, rfl⟩ : k1 = e1.kind /\ t1 = e1.text /\ n1 = e1.num := by rw [<- hE1]; exact ⟨rfl, rfl, rfl⟩
          clear hE1 hd1 hc4 hg4 hw1
          have ho1 := lit_out (lo := w3.heap.size) (w := w4) (L := [(e1, .slice xa1 xl1 xc1, .slice ya1 yl1 yc1)]) #[.int .i64 e1.kind, .string e1.text, .int .i64 e1.num, .slice xa1 xl1 xc1, .slice ya1 yl1 yc1] rfl (by simp) (by simp) (Nat.le_of_lt_succ (Nat.lt_succ_of_le HSZ34.out)) (by
            intro x hx
            simp only [List.mem_cons, List.not_mem_nil, or_false] at hx
            subst hx
            exact HNODE.out)
          have hba := zad w4 (.cells #[.int .i64 e1.kind, .string e1.text, .int .i64 e1.num, .slice xa1 xl1 xc1, .slice ya1 yl1 yc1] 27)
          have HRN : Hid (NS w3.heap.size (w4.alloc (.cells #[.int .i64 e1.kind, .string e1.text, .int .i64 e1.num, .slice xa1 xl1 xc1, .slice ya1 yl1 yc1] 27)) (.mk 9 ⟨#[]⟩ 0 [] [e1]) (.slice none 0 0) (.slice (some ⟨w4.heap.size, 0, none⟩) 1 1)) := zH (ns_out (L := [(e1, .slice xa1 xl1 xc1, .slice ya1 yl1 yc1)]) rfl (Nat.zero_le _) ho1)
          have HO4 := zH (HO4a.out.below hba)
          have hw4 : (w4.alloc (.cells #[.int .i64 e1.kind, .string e1.text, .int .i64 e1.num, .slice xa1 xl1 xc1, .slice ya1 yl1 yc1] 27)).heap.size = w4.heap.size + 1 := by simp
          have HBA4 := zH hba
          clear ho1 hba
          go_wp2_with (at_builtin; go_must (refine wpList_append_own_at _ rfl _ _ 25 rfl w1.heap.size 27 i0 (.agg #[.int .i64 0, .string ByteArray.empty, .int .i64 0, .slice none 0 0, .slice none 0 0]) 5 80 Tryz.underlying25 hi hz0 hz1 hz2 rfl (by decide) _ L.length (row5 L) rfl (HO4.out.below ((zB _ _).alloc (zL _) _)).own ⟨w4.heap.size + 1, 0, none⟩ 1 1 (row5 [((E.mk 9 ⟨#[]⟩ 0 [] [e1], Value.slice none 0 0, Value.slice (some ⟨w4.heap.size, 0, none⟩) 1 1) : Parser.Item)]) rfl rfl ?c1 ?c2 ?c3 ?c4 ?c5 ?_))
          case c1 => exact five_cells2 w4 _ ((E.mk 9 ⟨#[]⟩ 0 [] [e1], Value.slice none 0 0, Value.slice (some ⟨w4.heap.size, 0, none⟩) 1 1) : Parser.Item) _
          case c2 => exact all_one (L := [((E.mk 9 ⟨#[]⟩ 0 [] [e1], Value.slice none 0 0, Value.slice (some ⟨w4.heap.size, 0, none⟩) 1 1) : Parser.Item)]) (fun y hy => by rw [List.mem_singleton.1 hy]; exact HRN.out.1)
          case c3 => unfold maxLen; omega
          case c4 => omega
          case c5 => simp; omega
          intro v5 w5 hown hgr hnn hat
          have HO5 : Hid (Out w1.heap.size w5 (L ++ [((E.mk 9 ⟨#[]⟩ 0 [] [e1], Value.slice none 0 0, Value.slice (some ⟨w4.heap.size, 0, none⟩) 1 1) : Parser.Item)]) v5) := zH (HO4.out.app (l1 := w3.heap.size) HRN.out HBS3.out HBL.out hown hgr (by rw [hw4]; exact hat) hnn)
          have hlow := (HBA4.out.mono hb4).trans (app_low (base := w1.heap.size) (by rw [hw4]; omega) HO4.out.own hgr)
          have HC5 := zH (cur_low HC4.out hlow hgB)
          have HG5 := zH (gr_low HG4.out (hlow.mono (by omega)))
          have HZ5 := zH (HZ4.out.low hlow hB1)
          have HBS5 := zH (Nat.le_trans hb4 hlow.size)
          clear hown hgr hnn hat hlow
          have HWF : Hid (weights (trees (L ++ [((E.mk 9 ⟨#[]⟩ 0 [] [e1], Value.slice none 0 0, Value.slice (some ⟨w4.heap.size, 0, none⟩) 1 1) : Parser.Item)])) + (L ++ [((E.mk 9 ⟨#[]⟩ 0 [] [e1], Value.slice none 0 0, Value.slice (some ⟨w4.heap.size, 0, none⟩) 1 1) : Parser.Item)]).length <= 3 * W + 4) := zH (by
            rw [trees_append, za1, List.length_append]
            have e1' : weights (trees [((E.mk 9 ⟨#[]⟩ 0 [] [e1], Value.slice none 0 0, Value.slice (some ⟨w4.heap.size, 0, none⟩) 1 1) : Parser.Item)]) = 1 + weight e1 := by
              show weight (.mk 9 ⟨#[]⟩ 0 [] [e1]) + 0 = _
              rw [weight]
              show 0 + (0 + 0) + (1 + (weight e1 + 0)) + 0 = _
              omega
            rw [e1']
            have := HWL2.out; have := HW1.out
            show _ + (L.length + 1) <= _
            omega)
          obtain ⟨ua, uc, rfl⟩ := HO5.out.form
          have hLF : (L ++ [((E.mk 9 ⟨#[]⟩ 0 [] [e1], Value.slice none 0 0, Value.slice (some ⟨w4.heap.size, 0, none⟩) 1 1) : Parser.Item)]).length <= 3 := by rw [List.length_append]; show L.length + 1 <= 3; omega
          generalize L ++ [((E.mk 9 ⟨#[]⟩ 0 [] [e1], Value.slice none 0 0, Value.slice (some ⟨w4.heap.size, 0, none⟩) 1 1) : Parser.Item)] = LF at *
          generalize hLFn : LF.length = LN at *
          have HLFN := zH hLFn
          clear hLFn
          have hw5 : w.heap.size <= w5.heap.size := by have := HBS5.out; omega
          have hw5b : w.heap.size + 1 <= w5.heap.size := by have := HBS5.out; omega
          have hg5 : g < w5.heap.size := by omega
          have hp : ((w5.alloc (.cells #[] 9)).ownsRow w5.heap.size 9 1 (.slice (some ⟨w5.heap.size, 0, none⟩) 0 0) 0 (([] : List ByteArray).map Value.string)) := World.ownsRow_lit (base := w5.heap.size) (e := 9) (size := 1) w5 #[] 0 (zL _) (Nat.zero_le _) rfl
          have hs6 : (w5.alloc (.cells #[] 9)).heap.size = w5.heap.size + 1 := by simp
          have hq : (((w5.alloc (.cells #[] 9)).alloc (.cells #[] 9)).ownsRow w5.heap.size 9 1 (.slice (some ⟨w5.heap.size + 1, 0, none⟩) 0 0) 0 (([] : List ByteArray).map Value.string)) := by
            have := World.ownsRow_lit (base := w5.heap.size) (e := 9) (size := 1) (w5.alloc (.cells #[] 9)) #[] 0 (by rw [hs6]; omega) (Nat.zero_le _) rfl
            rwa [hs6] at this
          have hb6 := (zad w5 (.cells #[] 9))
          have hb7 := hb6.trans ((zad (w5.alloc (.cells #[] 9)) (.cells #[] 9)).mono hb6.size)
          have hs7 : ((w5.alloc (.cells #[] 9)).alloc (.cells #[] 9)).heap.size = w5.heap.size + 2 := by simp
          have HP6 := zH (own_keep hp (zad (w5.alloc (.cells #[] 9)) (.cells #[] 9)))
          have HQ6 := zH hq
          obtain ⟨w6, hw6⟩ : ∃ w6, w6 = (w5.alloc (.cells #[] 9)).alloc (.cells #[] 9) := ⟨_, rfl⟩
          rw [<- hw6] at HP6 HQ6 hb7 hs7
          have HC6 := zH (curKeep HC5.out hb7)
          have HG6 := zH (zav HG5.out hb7)
          have HZ6 := zH (HZ5.out.step hb7)
          have HX6 : Hid (w5.grownBy w6 (some g) /\ w5.heap.size + 2 <= w6.heap.size) := zH ⟨zav (grown_refl w5 (some g)) hb7, by omega⟩
          have HW6 := zH hw6
          clear hp hq hb6 hb7 hw6 hs6 hs7
          have KO2 := zH (once_any 2 (by decide) (by decide) HC6.out (HBI.out.keep HG6.out))
          go_wp2_with fail
          rw [<- HW6.out]
          refine KO2.out.mono ?_
          rintro r w7 ⟨y1, rfl, hc, hb, hg⟩
          have HC7 := zH hc
          have HG7 := zH (zab HG6.out hg)
          have HZ7 := zH (zam HZ6.out hg hne)
          have HX7 := zH (And.intro (zab HX6.out.1 hg) (Nat.le_trans HX6.out.2 hg.size))
          have HP7 := zH (own_gr HP6.out hg hg5)
          have HQ7 := zH (own_gr HQ6.out hg hg5)
          clear hc hb hg KO2 HP6 HQ6 HW6 HC6 HG6 HZ6 HX6
          cases y1 with
          | true =>
            have hba := zad w7 (.cells #[.string ⟨#[112]⟩] 9)
            have HOA := zH (own_keep HP7.out hba)
            have hbz : w5.heap.size + 2 <= w7.heap.size := HX7.out.2
            have hal : (w7.alloc (.cells #[.string ⟨#[112]⟩] 9)).heap.size = w7.heap.size + 1 := by simp
            have HQ8A := zH (own_keep HQ7.out hba)
            clear hba
            go_wp2_with (at_builtin; go_must (refine wpList_append_own_at _ rfl _ _ 24 rfl w5.heap.size 9 j0 (.string ByteArray.empty) 1 16 Tryz.underlying24 hj hy0 hy1 hy2 rfl (by decide) _ 0 (([] : List ByteArray).map Value.string) rfl HOA.out ⟨w7.heap.size, 0, none⟩ 1 1 (([⟨#[112]⟩] : List ByteArray).map Value.string) rfl rfl ?c1 ?c2 ?c3 ?c4 ?c5 ?_))
            case c1 => exact strs_cells (w := (w7.alloc (.cells #[.string ⟨#[112]⟩] 9))) (b := w7.heap.size) (o := 0) (xs := [⟨#[112]⟩]) (fun j hj => by rw [Nat.zero_add, strs_at w7 [⟨#[112]⟩] #[.string ⟨#[112]⟩] 1 rfl rfl j hj, List.getD, List.getElem?_eq_getElem hj]; rfl)
            case c2 => exact strs_one _
            case c3 => unfold maxLen; omega
            case c4 => omega
            case c5 => rw [hal]; omega
            intro vp w8 hown hgr hnn hat
            have hlow := (zB w5.heap.size (w7.alloc (.cells #[.string ⟨#[112]⟩] 9))).grown hgr (by rw [hal]; omega) (fun k hk => (HOA.out.lt k hk).1)
            have OWNp : Hid (w8.ownsRow w5.heap.size 9 1 vp ([⟨#[112]⟩] : List ByteArray).length (([⟨#[112]⟩] : List ByteArray).map Value.string)) := zH (by simpa using hown)
            have NNp := zH hnn
            have ATp := zH hat
            have HQ8 := zH (HQ8A.out.kept hgr (.inr (by simp [Value.ownBlock])))
            have hl1 := ((zB w5.heap.size w7).alloc (by omega) (.cells #[.string ⟨#[112]⟩] 9)).trans hlow
            have HC8 := zH (cur_low HC7.out hl1 hg5)
            have HG8 := zH (gr_low HG7.out (hl1.mono hw5))
            have HZ8 := zH (HZ7.out.low hl1 (Nat.lt_of_lt_of_le hB1 HBS5.out))
            have HX8 := zH (And.intro (gr_low HX7.out.1 hl1) (Nat.le_trans HX7.out.2 hl1.size))
            clear hown hgr hlow HOA hnn hat hl1 hal hbz
            have HPN : Hid (vp.ownBlock ≠ some (w5.heap.size + 1)) := zH (by
              have hz := HX7.out.2
              rcases ATp.out with e | e
              · rw [e]; simp [Value.ownBlock]
              · rw [e]; simp; omega)
            have KO3 := zH (once_any 3 (by decide) (by decide) HC8.out (HBI.out.keep HG8.out))
            go_wp2_with fail
            refine KO3.out.mono ?_
            rintro r w9 ⟨y2, rfl, hc, hb, hg⟩
            have HC9 := zH hc
            have HG9 := zH (zab HG8.out hg)
            have HZ9 := zH (zam HZ8.out hg hne)
            have HX9 := zH (And.intro (zab HX8.out.1 hg) (Nat.le_trans HX8.out.2 hg.size))
            have HP9 := zH (own_gr OWNp.out hg hg5)
            have HQ9 := zH (own_gr HQ8.out hg hg5)
            clear hc hb hg KO3
            cases y2 with
            | true =>
              have hba := zad w9 (.cells #[.string ⟨#[113]⟩, .string ⟨#[114]⟩] 9)
              have HOA := zH (own_keep HQ9.out hba)
              have hbz : w5.heap.size + 2 <= w9.heap.size := HX9.out.2
              have hal : (w9.alloc (.cells #[.string ⟨#[113]⟩, .string ⟨#[114]⟩] 9)).heap.size = w9.heap.size + 1 := by simp
              have HP10A := zH (own_keep HP9.out hba)
              clear hba
              go_wp2_with (at_builtin; go_must (refine wpList_append_own_at _ rfl _ _ 24 rfl w5.heap.size 9 j0 (.string ByteArray.empty) 1 16 Tryz.underlying24 hj hy0 hy1 hy2 rfl (by decide) _ 0 (([] : List ByteArray).map Value.string) rfl HOA.out ⟨w9.heap.size, 0, none⟩ 2 2 (([⟨#[113]⟩, ⟨#[114]⟩] : List ByteArray).map Value.string) rfl rfl ?c1 ?c2 ?c3 ?c4 ?c5 ?_))
              case c1 => exact strs_cells (w := (w9.alloc (.cells #[.string ⟨#[113]⟩, .string ⟨#[114]⟩] 9))) (b := w9.heap.size) (o := 0) (xs := [⟨#[113]⟩, ⟨#[114]⟩]) (fun j hj => by rw [Nat.zero_add, strs_at w9 [⟨#[113]⟩, ⟨#[114]⟩] #[.string ⟨#[113]⟩, .string ⟨#[114]⟩] 2 rfl rfl j hj, List.getD, List.getElem?_eq_getElem hj]; rfl)
              case c2 => exact strs_one _
              case c3 => unfold maxLen; omega
              case c4 => omega
              case c5 => rw [hal]; omega
              intro vq w10 hown hgr hnn hat
              have hlow := (zB w5.heap.size (w9.alloc (.cells #[.string ⟨#[113]⟩, .string ⟨#[114]⟩] 9))).grown hgr (by rw [hal]; omega) (fun k hk => (HOA.out.lt k hk).1)
              have OWNq : Hid (w10.ownsRow w5.heap.size 9 1 vq ([⟨#[113]⟩, ⟨#[114]⟩] : List ByteArray).length (([⟨#[113]⟩, ⟨#[114]⟩] : List ByteArray).map Value.string)) := zH (by simpa using hown)
              have NNq := zH hnn
              have ATq := zH hat
              have HP10 := zH (HP10A.out.kept hgr (.inr (by exact HPN.out)))
              have hl1 := ((zB w5.heap.size w9).alloc (by omega) (.cells #[.string ⟨#[113]⟩, .string ⟨#[114]⟩] 9)).trans hlow
              have HC10 := zH (cur_low HC9.out hl1 hg5)
              have HG10 := zH (gr_low HG9.out (hl1.mono hw5))
              have HZ10 := zH (HZ9.out.low hl1 (Nat.lt_of_lt_of_le hB1 HBS5.out))
              have HX10 := zH (And.intro (gr_low HX9.out.1 hl1) (Nat.le_trans HX9.out.2 hl1.size))
              clear hown hgr hlow HOA hnn hat hl1 hal hbz
              have htp : TextsN (w.heap.size + 1) w10 ([⟨#[112]⟩] : List ByteArray) vp := za3 (base := w5.heap.size) HP10.out NNp.out (by omega) (fun x hx => by simp only [List.mem_cons, List.not_mem_nil, or_false] at hx; rcases hx with rfl <;> decide)
              have htt : TextsN (w.heap.size + 1) w10 ([⟨#[113]⟩, ⟨#[114]⟩] : List ByteArray) vq := za3 (base := w5.heap.size) OWNq.out NNq.out (by omega) (fun x hx => by simp only [List.mem_cons, List.not_mem_nil, or_false] at hx; rcases hx with rfl | rfl <;> decide)
              have HOF := zH (out_base (out_gr HO5.out HX10.out.1 hgB) (show w.heap.size + 1 <= w1.heap.size by omega))
              have hkf := HOF.out.kids.kids
              have KBK := zH (block_raw htp htt hkf (by decide) (by decide) (by have := HZ10.out.size; omega))
              clear htp htt hkf
              go_wp2_with fail
              refine KBK.out.mono ?_
              rintro r w11 ⟨vn, rfl, htx, hfr, hb⟩
              have htx' := htx
              obtain ⟨za, zc, rfl, -⟩ := htx
              rw [show (([⟨#[112]⟩] : List ByteArray) ++ ([⟨#[113]⟩, ⟨#[114]⟩] : List ByteArray)).length = 3 from rfl] at htx' hfr
              have hap : (Value.slice za 3 zc).ownBlock = none \/ (Value.slice za 3 zc).ownBlock ≠ (Value.slice ua LN uc).ownBlock := by
                cases hz : (Value.slice za 3 zc).ownBlock with
                | none => exact .inl rfl
                | some b => exact .inr fun e => by have h1 := hfr b hz; have h2 := (HOF.out.own.lt b e.symm).2; omega
              have HD : Hid (Dr (w.heap.size + 1) w11 8 ⟨#[]⟩ 1 (([⟨#[112]⟩] : List ByteArray) ++ ([⟨#[113]⟩, ⟨#[114]⟩] : List ByteArray)) LF (.slice za 3 zc) (.slice ua LN uc)) := zH ⟨rfl, rfl, Nat.zero_le _, htx', .inr (HOF.out.below hb), hap⟩
              have HC := zH (curKeep HC10.out hb)
              have HG := zH (zav HG10.out hb)
              obtain ⟨hsz, z0, z1, z2, z3, z4, fz⟩ := HZ10.out.step hb
              have HW : Hid (weight (.mk 8 ⟨#[]⟩ 1 (([⟨#[112]⟩] : List ByteArray) ++ ([⟨#[113]⟩, ⟨#[114]⟩] : List ByteArray)) (trees LF)) <= 3 * W + 20) := zH (by
                rw [zau]
                have h1 := HWF.out; have h3 := HLFN.out
                have h2 : (([⟨#[112]⟩] : List ByteArray) ++ ([⟨#[113]⟩, ⟨#[114]⟩] : List ByteArray)).length + lens (([⟨#[112]⟩] : List ByteArray) ++ ([⟨#[113]⟩, ⟨#[114]⟩] : List ByteArray)) <= 6 := by decide
                show 0 + _ + _ <= _
                omega)
              clear htx' hb KBK hfr hap
              go_wp2_with fail
              refine bodyPost_ret (v := .agg #[.int .i64 8, .string ⟨#[]⟩, .int .i64 1, .slice za 3 zc, .slice ua LN uc]) (by simp [results, Tryz.results84, go_sem, *]) rfl ?_
              exact zal HD.out HC.out HG.out hgl HW.out
            | false =>
              have htp : TextsN (w.heap.size + 1) w9 ([⟨#[112]⟩] : List ByteArray) vp := za3 (base := w5.heap.size) HP9.out NNp.out (by omega) (fun x hx => by simp only [List.mem_cons, List.not_mem_nil, or_false] at hx; rcases hx with rfl <;> decide)
              have htt : TextsN (w.heap.size + 1) w9 ([] : List ByteArray) (.slice (some ⟨w5.heap.size + 1, 0, none⟩) 0 0) := za3 (base := w5.heap.size) HQ9.out (by simp) (by omega) (fun x hx => by cases hx)
              have HOF := zH (out_base (out_gr HO5.out HX9.out.1 hgB) (show w.heap.size + 1 <= w1.heap.size by omega))
              have hkf := HOF.out.kids.kids
              have KBK := zH (block_raw htp htt hkf (by decide) (by decide) (by have := HZ9.out.size; omega))
              clear htp htt hkf
              go_wp2_with fail
              refine KBK.out.mono ?_
              rintro r w10 ⟨vn, rfl, htx, hfr, hb⟩
              have htx' := htx
              obtain ⟨za, zc, rfl, -⟩ := htx
              rw [show (([⟨#[112]⟩] : List ByteArray) ++ ([] : List ByteArray)).length = 1 from rfl] at htx' hfr
              have hap : (Value.slice za 1 zc).ownBlock = none \/ (Value.slice za 1 zc).ownBlock ≠ (Value.slice ua LN uc).ownBlock := by
                cases hz : (Value.slice za 1 zc).ownBlock with
                | none => exact .inl rfl
                | some b => exact .inr fun e => by have h1 := hfr b hz; have h2 := (HOF.out.own.lt b e.symm).2; omega
              have HD : Hid (Dr (w.heap.size + 1) w10 8 ⟨#[]⟩ 1 (([⟨#[112]⟩] : List ByteArray) ++ ([] : List ByteArray)) LF (.slice za 1 zc) (.slice ua LN uc)) := zH ⟨rfl, rfl, Nat.zero_le _, htx', .inr (HOF.out.below hb), hap⟩
              have HC := zH (curKeep HC9.out hb)
              have HG := zH (zav HG9.out hb)
              obtain ⟨hsz, z0, z1, z2, z3, z4, fz⟩ := HZ9.out.step hb
              have HW : Hid (weight (.mk 8 ⟨#[]⟩ 1 (([⟨#[112]⟩] : List ByteArray) ++ ([] : List ByteArray)) (trees LF)) <= 3 * W + 20) := zH (by
                rw [zau]
                have h1 := HWF.out; have h3 := HLFN.out
                have h2 : (([⟨#[112]⟩] : List ByteArray) ++ ([] : List ByteArray)).length + lens (([⟨#[112]⟩] : List ByteArray) ++ ([] : List ByteArray)) <= 6 := by decide
                show 0 + _ + _ <= _
                omega)
              clear htx' hb KBK hfr hap
              go_wp2_with fail
              refine bodyPost_ret (v := .agg #[.int .i64 8, .string ⟨#[]⟩, .int .i64 1, .slice za 1 zc, .slice ua LN uc]) (by simp [results, Tryz.results84, go_sem, *]) rfl ?_
              exact zal HD.out HC.out HG.out hgl HW.out
          | false =>
            have KO3 := zH (once_any 3 (by decide) (by decide) HC7.out (HBI.out.keep HG7.out))
            go_wp2_with fail
            refine KO3.out.mono ?_
            rintro r w8 ⟨y2, rfl, hc, hb, hg⟩
            have HC8 := zH hc
            have HG8 := zH (zab HG7.out hg)
            have HZ8 := zH (zam HZ7.out hg hne)
            have HX8 := zH (And.intro (zab HX7.out.1 hg) (Nat.le_trans HX7.out.2 hg.size))
            have HP8 := zH (own_gr HP7.out hg hg5)
            have HQ8 := zH (own_gr HQ7.out hg hg5)
            clear hc hb hg KO3
            cases y2 with
            | true =>
              have hba := zad w8 (.cells #[.string ⟨#[113]⟩, .string ⟨#[114]⟩] 9)
              have HOA := zH (own_keep HQ8.out hba)
              have hbz : w5.heap.size + 2 <= w8.heap.size := HX8.out.2
              have hal : (w8.alloc (.cells #[.string ⟨#[113]⟩, .string ⟨#[114]⟩] 9)).heap.size = w8.heap.size + 1 := by simp
              have HP9A := zH (own_keep HP8.out hba)
              clear hba
              go_wp2_with (at_builtin; go_must (refine wpList_append_own_at _ rfl _ _ 24 rfl w5.heap.size 9 j0 (.string ByteArray.empty) 1 16 Tryz.underlying24 hj hy0 hy1 hy2 rfl (by decide) _ 0 (([] : List ByteArray).map Value.string) rfl HOA.out ⟨w8.heap.size, 0, none⟩ 2 2 (([⟨#[113]⟩, ⟨#[114]⟩] : List ByteArray).map Value.string) rfl rfl ?c1 ?c2 ?c3 ?c4 ?c5 ?_))
              case c1 => exact strs_cells (w := (w8.alloc (.cells #[.string ⟨#[113]⟩, .string ⟨#[114]⟩] 9))) (b := w8.heap.size) (o := 0) (xs := [⟨#[113]⟩, ⟨#[114]⟩]) (fun j hj => by rw [Nat.zero_add, strs_at w8 [⟨#[113]⟩, ⟨#[114]⟩] #[.string ⟨#[113]⟩, .string ⟨#[114]⟩] 2 rfl rfl j hj, List.getD, List.getElem?_eq_getElem hj]; rfl)
              case c2 => exact strs_one _
              case c3 => unfold maxLen; omega
              case c4 => omega
              case c5 => rw [hal]; omega
              intro vq w9 hown hgr hnn hat
              have hlow := (zB w5.heap.size (w8.alloc (.cells #[.string ⟨#[113]⟩, .string ⟨#[114]⟩] 9))).grown hgr (by rw [hal]; omega) (fun k hk => (HOA.out.lt k hk).1)
              have OWNq : Hid (w9.ownsRow w5.heap.size 9 1 vq ([⟨#[113]⟩, ⟨#[114]⟩] : List ByteArray).length (([⟨#[113]⟩, ⟨#[114]⟩] : List ByteArray).map Value.string)) := zH (by simpa using hown)
              have NNq := zH hnn
              have ATq := zH hat
              have HP9 := zH (HP9A.out.kept hgr (.inr (by simp [Value.ownBlock])))
              have hl1 := ((zB w5.heap.size w8).alloc (by omega) (.cells #[.string ⟨#[113]⟩, .string ⟨#[114]⟩] 9)).trans hlow
              have HC9 := zH (cur_low HC8.out hl1 hg5)
              have HG9 := zH (gr_low HG8.out (hl1.mono hw5))
              have HZ9 := zH (HZ8.out.low hl1 (Nat.lt_of_lt_of_le hB1 HBS5.out))
              have HX9 := zH (And.intro (gr_low HX8.out.1 hl1) (Nat.le_trans HX8.out.2 hl1.size))
              clear hown hgr hlow HOA hnn hat hl1 hal hbz
              have htp : TextsN (w.heap.size + 1) w9 ([] : List ByteArray) (.slice (some ⟨w5.heap.size, 0, none⟩) 0 0) := za3 (base := w5.heap.size) HP9.out (by simp) (by omega) (fun x hx => by cases hx)
              have htt : TextsN (w.heap.size + 1) w9 ([⟨#[113]⟩, ⟨#[114]⟩] : List ByteArray) vq := za3 (base := w5.heap.size) OWNq.out NNq.out (by omega) (fun x hx => by simp only [List.mem_cons, List.not_mem_nil, or_false] at hx; rcases hx with rfl | rfl <;> decide)
              have HOF := zH (out_base (out_gr HO5.out HX9.out.1 hgB) (show w.heap.size + 1 <= w1.heap.size by omega))
              have hkf := HOF.out.kids.kids
              have KBK := zH (block_raw htp htt hkf (by decide) (by decide) (by have := HZ9.out.size; omega))
              clear htp htt hkf
              go_wp2_with fail
              refine KBK.out.mono ?_
              rintro r w10 ⟨vn, rfl, htx, hfr, hb⟩
              have htx' := htx
              obtain ⟨za, zc, rfl, -⟩ := htx
              rw [show (([] : List ByteArray) ++ ([⟨#[113]⟩, ⟨#[114]⟩] : List ByteArray)).length = 2 from rfl] at htx' hfr
              have hap : (Value.slice za 2 zc).ownBlock = none \/ (Value.slice za 2 zc).ownBlock ≠ (Value.slice ua LN uc).ownBlock := by
                cases hz : (Value.slice za 2 zc).ownBlock with
                | none => exact .inl rfl
                | some b => exact .inr fun e => by have h1 := hfr b hz; have h2 := (HOF.out.own.lt b e.symm).2; omega
              have HD : Hid (Dr (w.heap.size + 1) w10 8 ⟨#[]⟩ 0 (([] : List ByteArray) ++ ([⟨#[113]⟩, ⟨#[114]⟩] : List ByteArray)) LF (.slice za 2 zc) (.slice ua LN uc)) := zH ⟨rfl, rfl, Nat.zero_le _, htx', .inr (HOF.out.below hb), hap⟩
              have HC := zH (curKeep HC9.out hb)
              have HG := zH (zav HG9.out hb)
              obtain ⟨hsz, z0, z1, z2, z3, z4, fz⟩ := HZ9.out.step hb
              have HW : Hid (weight (.mk 8 ⟨#[]⟩ 0 (([] : List ByteArray) ++ ([⟨#[113]⟩, ⟨#[114]⟩] : List ByteArray)) (trees LF)) <= 3 * W + 20) := zH (by
                rw [zau]
                have h1 := HWF.out; have h3 := HLFN.out
                have h2 : (([] : List ByteArray) ++ ([⟨#[113]⟩, ⟨#[114]⟩] : List ByteArray)).length + lens (([] : List ByteArray) ++ ([⟨#[113]⟩, ⟨#[114]⟩] : List ByteArray)) <= 6 := by decide
                show 0 + _ + _ <= _
                omega)
              clear htx' hb KBK hfr hap
              go_wp2_with fail
              refine bodyPost_ret (v := .agg #[.int .i64 8, .string ⟨#[]⟩, .int .i64 0, .slice za 2 zc, .slice ua LN uc]) (by simp [results, Tryz.results84, go_sem, *]) rfl ?_
              exact zal HD.out HC.out HG.out hgl HW.out
            | false =>
              have htp : TextsN (w.heap.size + 1) w8 ([] : List ByteArray) (.slice (some ⟨w5.heap.size, 0, none⟩) 0 0) := za3 (base := w5.heap.size) HP8.out (by simp) (by omega) (fun x hx => by cases hx)
              have htt : TextsN (w.heap.size + 1) w8 ([] : List ByteArray) (.slice (some ⟨w5.heap.size + 1, 0, none⟩) 0 0) := za3 (base := w5.heap.size) HQ8.out (by simp) (by omega) (fun x hx => by cases hx)
              have HOF := zH (out_base (out_gr HO5.out HX8.out.1 hgB) (show w.heap.size + 1 <= w1.heap.size by omega))
              have hkf := HOF.out.kids.kids
              have KBK := zH (block_raw htp htt hkf (by decide) (by decide) (by have := HZ8.out.size; omega))
              clear htp htt hkf
              go_wp2_with fail
              refine KBK.out.mono ?_
              rintro r w9 ⟨vn, rfl, htx, hfr, hb⟩
              have htx' := htx
              obtain ⟨za, zc, rfl, -⟩ := htx
              rw [show (([] : List ByteArray) ++ ([] : List ByteArray)).length = 0 from rfl] at htx' hfr
              have hap : (Value.slice za 0 zc).ownBlock = none \/ (Value.slice za 0 zc).ownBlock ≠ (Value.slice ua LN uc).ownBlock := by
                cases hz : (Value.slice za 0 zc).ownBlock with
                | none => exact .inl rfl
                | some b => exact .inr fun e => by have h1 := hfr b hz; have h2 := (HOF.out.own.lt b e.symm).2; omega
              have HD : Hid (Dr (w.heap.size + 1) w9 8 ⟨#[]⟩ 0 (([] : List ByteArray) ++ ([] : List ByteArray)) LF (.slice za 0 zc) (.slice ua LN uc)) := zH ⟨rfl, rfl, Nat.zero_le _, htx', .inr (HOF.out.below hb), hap⟩
              have HC := zH (curKeep HC8.out hb)
              have HG := zH (zav HG8.out hb)
              obtain ⟨hsz, z0, z1, z2, z3, z4, fz⟩ := HZ8.out.step hb
              have HW : Hid (weight (.mk 8 ⟨#[]⟩ 0 (([] : List ByteArray) ++ ([] : List ByteArray)) (trees LF)) <= 3 * W + 20) := zH (by
                rw [zau]
                have h1 := HWF.out; have h3 := HLFN.out
                have h2 : (([] : List ByteArray) ++ ([] : List ByteArray)).length + lens (([] : List ByteArray) ++ ([] : List ByteArray)) <= 6 := by decide
                show 0 + _ + _ <= _
                omega)
              clear htx' hb KBK hfr hap
              go_wp2_with fail
              refine bodyPost_ret (v := .agg #[.int .i64 8, .string ⟨#[]⟩, .int .i64 0, .slice za 0 zc, .slice ua LN uc]) (by simp [results, Tryz.results84, go_sem, *]) rfl ?_
              exact zal HD.out HC.out HG.out hgl HW.out
        | false =>
          have HWF : Hid (weights (trees L) + L.length <= 3 * W + 4) := zH (by have := HWL2.out; omega)
          have HC5 := HC3
          have HG5 := HG3
          have HZ5 := HZ3
          have HO5 := HO3
          have HBS5 := HBS3
          have hLF : L.length <= 3 := by omega
          generalize hLFn : L.length = LN at *
          have HLFN := zH hLFn
          clear hLFn
          have hw5 : w.heap.size <= w3.heap.size := by have := HBS5.out; omega
          have hw5b : w.heap.size + 1 <= w3.heap.size := by have := HBS5.out; omega
          have hg5 : g < w3.heap.size := by omega
          have hp : ((w3.alloc (.cells #[] 9)).ownsRow w3.heap.size 9 1 (.slice (some ⟨w3.heap.size, 0, none⟩) 0 0) 0 (([] : List ByteArray).map Value.string)) := World.ownsRow_lit (base := w3.heap.size) (e := 9) (size := 1) w3 #[] 0 (zL _) (Nat.zero_le _) rfl
          have hs6 : (w3.alloc (.cells #[] 9)).heap.size = w3.heap.size + 1 := by simp
          have hq : (((w3.alloc (.cells #[] 9)).alloc (.cells #[] 9)).ownsRow w3.heap.size 9 1 (.slice (some ⟨w3.heap.size + 1, 0, none⟩) 0 0) 0 (([] : List ByteArray).map Value.string)) := by
            have := World.ownsRow_lit (base := w3.heap.size) (e := 9) (size := 1) (w3.alloc (.cells #[] 9)) #[] 0 (by rw [hs6]; omega) (Nat.zero_le _) rfl
            rwa [hs6] at this
          have hb6 := (zad w3 (.cells #[] 9))
          have hb7 := hb6.trans ((zad (w3.alloc (.cells #[] 9)) (.cells #[] 9)).mono hb6.size)
          have hs7 : ((w3.alloc (.cells #[] 9)).alloc (.cells #[] 9)).heap.size = w3.heap.size + 2 := by simp
          have HP6 := zH (own_keep hp (zad (w3.alloc (.cells #[] 9)) (.cells #[] 9)))
          have HQ6 := zH hq
          obtain ⟨w6, hw6⟩ : ∃ w6, w6 = (w3.alloc (.cells #[] 9)).alloc (.cells #[] 9) := ⟨_, rfl⟩
          rw [<- hw6] at HP6 HQ6 hb7 hs7
          have HC6 := zH (curKeep HC5.out hb7)
          have HG6 := zH (zav HG5.out hb7)
          have HZ6 := zH (HZ5.out.step hb7)
          have HX6 : Hid (w3.grownBy w6 (some g) /\ w3.heap.size + 2 <= w6.heap.size) := zH ⟨zav (grown_refl w3 (some g)) hb7, by omega⟩
          have HW6 := zH hw6
          clear hp hq hb6 hb7 hw6 hs6 hs7
          have KO2 := zH (once_any 2 (by decide) (by decide) HC6.out (HBI.out.keep HG6.out))
          go_wp2_with fail
          rw [<- HW6.out]
          refine KO2.out.mono ?_
          rintro r w7 ⟨y1, rfl, hc, hb, hg⟩
          have HC7 := zH hc
          have HG7 := zH (zab HG6.out hg)
          have HZ7 := zH (zam HZ6.out hg hne)
          have HX7 := zH (And.intro (zab HX6.out.1 hg) (Nat.le_trans HX6.out.2 hg.size))
          have HP7 := zH (own_gr HP6.out hg hg5)
          have HQ7 := zH (own_gr HQ6.out hg hg5)
          clear hc hb hg KO2 HP6 HQ6 HW6 HC6 HG6 HZ6 HX6
          cases y1 with
          | true =>
            have hba := zad w7 (.cells #[.string ⟨#[112]⟩] 9)
            have HOA := zH (own_keep HP7.out hba)
            have hbz : w3.heap.size + 2 <= w7.heap.size := HX7.out.2
            have hal : (w7.alloc (.cells #[.string ⟨#[112]⟩] 9)).heap.size = w7.heap.size + 1 := by simp
            have HQ8A := zH (own_keep HQ7.out hba)
            clear hba
            go_wp2_with (at_builtin; go_must (refine wpList_append_own_at _ rfl _ _ 24 rfl w3.heap.size 9 j0 (.string ByteArray.empty) 1 16 Tryz.underlying24 hj hy0 hy1 hy2 rfl (by decide) _ 0 (([] : List ByteArray).map Value.string) rfl HOA.out ⟨w7.heap.size, 0, none⟩ 1 1 (([⟨#[112]⟩] : List ByteArray).map Value.string) rfl rfl ?c1 ?c2 ?c3 ?c4 ?c5 ?_))
            case c1 => exact strs_cells (w := (w7.alloc (.cells #[.string ⟨#[112]⟩] 9))) (b := w7.heap.size) (o := 0) (xs := [⟨#[112]⟩]) (fun j hj => by rw [Nat.zero_add, strs_at w7 [⟨#[112]⟩] #[.string ⟨#[112]⟩] 1 rfl rfl j hj, List.getD, List.getElem?_eq_getElem hj]; rfl)
            case c2 => exact strs_one _
            case c3 => unfold maxLen; omega
            case c4 => omega
            case c5 => rw [hal]; omega
            intro vp w8 hown hgr hnn hat
            have hlow := (zB w3.heap.size (w7.alloc (.cells #[.string ⟨#[112]⟩] 9))).grown hgr (by rw [hal]; omega) (fun k hk => (HOA.out.lt k hk).1)
            have OWNp : Hid (w8.ownsRow w3.heap.size 9 1 vp ([⟨#[112]⟩] : List ByteArray).length (([⟨#[112]⟩] : List ByteArray).map Value.string)) := zH (by simpa using hown)
            have NNp := zH hnn
            have ATp := zH hat
            have HQ8 := zH (HQ8A.out.kept hgr (.inr (by simp [Value.ownBlock])))
            have hl1 := ((zB w3.heap.size w7).alloc (by omega) (.cells #[.string ⟨#[112]⟩] 9)).trans hlow
            have HC8 := zH (cur_low HC7.out hl1 hg5)
            have HG8 := zH (gr_low HG7.out (hl1.mono hw5))
            have HZ8 := zH (HZ7.out.low hl1 (Nat.lt_of_lt_of_le hB1 HBS5.out))
            have HX8 := zH (And.intro (gr_low HX7.out.1 hl1) (Nat.le_trans HX7.out.2 hl1.size))
            clear hown hgr hlow HOA hnn hat hl1 hal hbz
            have HPN : Hid (vp.ownBlock ≠ some (w3.heap.size + 1)) := zH (by
              have hz := HX7.out.2
              rcases ATp.out with e | e
              · rw [e]; simp [Value.ownBlock]
              · rw [e]; simp; omega)
            have KO3 := zH (once_any 3 (by decide) (by decide) HC8.out (HBI.out.keep HG8.out))
            go_wp2_with fail
            refine KO3.out.mono ?_
            rintro r w9 ⟨y2, rfl, hc, hb, hg⟩
            have HC9 := zH hc
            have HG9 := zH (zab HG8.out hg)
            have HZ9 := zH (zam HZ8.out hg hne)
            have HX9 := zH (And.intro (zab HX8.out.1 hg) (Nat.le_trans HX8.out.2 hg.size))
            have HP9 := zH (own_gr OWNp.out hg hg5)
            have HQ9 := zH (own_gr HQ8.out hg hg5)
            clear hc hb hg KO3
            cases y2 with
            | true =>
              have hba := zad w9 (.cells #[.string ⟨#[113]⟩, .string ⟨#[114]⟩] 9)
              have HOA := zH (own_keep HQ9.out hba)
              have hbz : w3.heap.size + 2 <= w9.heap.size := HX9.out.2
              have hal : (w9.alloc (.cells #[.string ⟨#[113]⟩, .string ⟨#[114]⟩] 9)).heap.size = w9.heap.size + 1 := by simp
              have HP10A := zH (own_keep HP9.out hba)
              clear hba
              go_wp2_with (at_builtin; go_must (refine wpList_append_own_at _ rfl _ _ 24 rfl w3.heap.size 9 j0 (.string ByteArray.empty) 1 16 Tryz.underlying24 hj hy0 hy1 hy2 rfl (by decide) _ 0 (([] : List ByteArray).map Value.string) rfl HOA.out ⟨w9.heap.size, 0, none⟩ 2 2 (([⟨#[113]⟩, ⟨#[114]⟩] : List ByteArray).map Value.string) rfl rfl ?c1 ?c2 ?c3 ?c4 ?c5 ?_))
              case c1 => exact strs_cells (w := (w9.alloc (.cells #[.string ⟨#[113]⟩, .string ⟨#[114]⟩] 9))) (b := w9.heap.size) (o := 0) (xs := [⟨#[113]⟩, ⟨#[114]⟩]) (fun j hj => by rw [Nat.zero_add, strs_at w9 [⟨#[113]⟩, ⟨#[114]⟩] #[.string ⟨#[113]⟩, .string ⟨#[114]⟩] 2 rfl rfl j hj, List.getD, List.getElem?_eq_getElem hj]; rfl)
              case c2 => exact strs_one _
              case c3 => unfold maxLen; omega
              case c4 => omega
              case c5 => rw [hal]; omega
              intro vq w10 hown hgr hnn hat
              have hlow := (zB w3.heap.size (w9.alloc (.cells #[.string ⟨#[113]⟩, .string ⟨#[114]⟩] 9))).grown hgr (by rw [hal]; omega) (fun k hk => (HOA.out.lt k hk).1)
              have OWNq : Hid (w10.ownsRow w3.heap.size 9 1 vq ([⟨#[113]⟩, ⟨#[114]⟩] : List ByteArray).length (([⟨#[113]⟩, ⟨#[114]⟩] : List ByteArray).map Value.string)) := zH (by simpa using hown)
              have NNq := zH hnn
              have ATq := zH hat
              have HP10 := zH (HP10A.out.kept hgr (.inr (by exact HPN.out)))
              have hl1 := ((zB w3.heap.size w9).alloc (by omega) (.cells #[.string ⟨#[113]⟩, .string ⟨#[114]⟩] 9)).trans hlow
              have HC10 := zH (cur_low HC9.out hl1 hg5)
              have HG10 := zH (gr_low HG9.out (hl1.mono hw5))
              have HZ10 := zH (HZ9.out.low hl1 (Nat.lt_of_lt_of_le hB1 HBS5.out))
              have HX10 := zH (And.intro (gr_low HX9.out.1 hl1) (Nat.le_trans HX9.out.2 hl1.size))
              clear hown hgr hlow HOA hnn hat hl1 hal hbz
              have htp : TextsN (w.heap.size + 1) w10 ([⟨#[112]⟩] : List ByteArray) vp := za3 (base := w3.heap.size) HP10.out NNp.out (by omega) (fun x hx => by simp only [List.mem_cons, List.not_mem_nil, or_false] at hx; rcases hx with rfl <;> decide)
              have htt : TextsN (w.heap.size + 1) w10 ([⟨#[113]⟩, ⟨#[114]⟩] : List ByteArray) vq := za3 (base := w3.heap.size) OWNq.out NNq.out (by omega) (fun x hx => by simp only [List.mem_cons, List.not_mem_nil, or_false] at hx; rcases hx with rfl | rfl <;> decide)
              have HOF := zH (out_base (out_gr HO5.out HX10.out.1 hgB) (show w.heap.size + 1 <= w1.heap.size by omega))
              have hkf := HOF.out.kids.kids
              have KBK := zH (block_raw htp htt hkf (by decide) (by decide) (by have := HZ10.out.size; omega))
              clear htp htt hkf
              go_wp2_with fail
              refine KBK.out.mono ?_
              rintro r w11 ⟨vn, rfl, htx, hfr, hb⟩
              have htx' := htx
              obtain ⟨za, zc, rfl, -⟩ := htx
              rw [show (([⟨#[112]⟩] : List ByteArray) ++ ([⟨#[113]⟩, ⟨#[114]⟩] : List ByteArray)).length = 3 from rfl] at htx' hfr
              have hap : (Value.slice za 3 zc).ownBlock = none \/ (Value.slice za 3 zc).ownBlock ≠ (Value.slice va LN vc).ownBlock := by
                cases hz : (Value.slice za 3 zc).ownBlock with
                | none => exact .inl rfl
                | some b => exact .inr fun e => by have h1 := hfr b hz; have h2 := (HOF.out.own.lt b e.symm).2; omega
              have HD : Hid (Dr (w.heap.size + 1) w11 8 ⟨#[]⟩ 1 (([⟨#[112]⟩] : List ByteArray) ++ ([⟨#[113]⟩, ⟨#[114]⟩] : List ByteArray)) L (.slice za 3 zc) (.slice va LN vc)) := zH ⟨rfl, rfl, Nat.zero_le _, htx', .inr (HOF.out.below hb), hap⟩
              have HC := zH (curKeep HC10.out hb)
              have HG := zH (zav HG10.out hb)
              obtain ⟨hsz, z0, z1, z2, z3, z4, fz⟩ := HZ10.out.step hb
              have HW : Hid (weight (.mk 8 ⟨#[]⟩ 1 (([⟨#[112]⟩] : List ByteArray) ++ ([⟨#[113]⟩, ⟨#[114]⟩] : List ByteArray)) (trees L)) <= 3 * W + 20) := zH (by
                rw [zau]
                have h1 := HWF.out; have h3 := HLFN.out
                have h2 : (([⟨#[112]⟩] : List ByteArray) ++ ([⟨#[113]⟩, ⟨#[114]⟩] : List ByteArray)).length + lens (([⟨#[112]⟩] : List ByteArray) ++ ([⟨#[113]⟩, ⟨#[114]⟩] : List ByteArray)) <= 6 := by decide
                show 0 + _ + _ <= _
                omega)
              clear htx' hb KBK hfr hap
              go_wp2_with fail
              refine bodyPost_ret (v := .agg #[.int .i64 8, .string ⟨#[]⟩, .int .i64 1, .slice za 3 zc, .slice va LN vc]) (by simp [results, Tryz.results84, go_sem, *]) rfl ?_
              exact zal HD.out HC.out HG.out hgl HW.out
            | false =>
              have htp : TextsN (w.heap.size + 1) w9 ([⟨#[112]⟩] : List ByteArray) vp := za3 (base := w3.heap.size) HP9.out NNp.out (by omega) (fun x hx => by simp only [List.mem_cons, List.not_mem_nil, or_false] at hx; rcases hx with rfl <;> decide)
              have htt : TextsN (w.heap.size + 1) w9 ([] : List ByteArray) (.slice (some ⟨w3.heap.size + 1, 0, none⟩) 0 0) := za3 (base := w3.heap.size) HQ9.out (by simp) (by omega) (fun x hx => by cases hx)
              have HOF := zH (out_base (out_gr HO5.out HX9.out.1 hgB) (show w.heap.size + 1 <= w1.heap.size by omega))
              have hkf := HOF.out.kids.kids
              have KBK := zH (block_raw htp htt hkf (by decide) (by decide) (by have := HZ9.out.size; omega))
              clear htp htt hkf
              go_wp2_with fail
              refine KBK.out.mono ?_
              rintro r w10 ⟨vn, rfl, htx, hfr, hb⟩
              have htx' := htx
              obtain ⟨za, zc, rfl, -⟩ := htx
              rw [show (([⟨#[112]⟩] : List ByteArray) ++ ([] : List ByteArray)).length = 1 from rfl] at htx' hfr
              have hap : (Value.slice za 1 zc).ownBlock = none \/ (Value.slice za 1 zc).ownBlock ≠ (Value.slice va LN vc).ownBlock := by
                cases hz : (Value.slice za 1 zc).ownBlock with
                | none => exact .inl rfl
                | some b => exact .inr fun e => by have h1 := hfr b hz; have h2 := (HOF.out.own.lt b e.symm).2; omega
              have HD : Hid (Dr (w.heap.size + 1) w10 8 ⟨#[]⟩ 1 (([⟨#[112]⟩] : List ByteArray) ++ ([] : List ByteArray)) L (.slice za 1 zc) (.slice va LN vc)) := zH ⟨rfl, rfl, Nat.zero_le _, htx', .inr (HOF.out.below hb), hap⟩
              have HC := zH (curKeep HC9.out hb)
              have HG := zH (zav HG9.out hb)
              obtain ⟨hsz, z0, z1, z2, z3, z4, fz⟩ := HZ9.out.step hb
              have HW : Hid (weight (.mk 8 ⟨#[]⟩ 1 (([⟨#[112]⟩] : List ByteArray) ++ ([] : List ByteArray)) (trees L)) <= 3 * W + 20) := zH (by
                rw [zau]
                have h1 := HWF.out; have h3 := HLFN.out
                have h2 : (([⟨#[112]⟩] : List ByteArray) ++ ([] : List ByteArray)).length + lens (([⟨#[112]⟩] : List ByteArray) ++ ([] : List ByteArray)) <= 6 := by decide
                show 0 + _ + _ <= _
                omega)
              clear htx' hb KBK hfr hap
              go_wp2_with fail
              refine bodyPost_ret (v := .agg #[.int .i64 8, .string ⟨#[]⟩, .int .i64 1, .slice za 1 zc, .slice va LN vc]) (by simp [results, Tryz.results84, go_sem, *]) rfl ?_
              exact zal HD.out HC.out HG.out hgl HW.out
          | false =>
            have KO3 := zH (once_any 3 (by decide) (by decide) HC7.out (HBI.out.keep HG7.out))
            go_wp2_with fail
            refine KO3.out.mono ?_
            rintro r w8 ⟨y2, rfl, hc, hb, hg⟩
            have HC8 := zH hc
            have HG8 := zH (zab HG7.out hg)
            have HZ8 := zH (zam HZ7.out hg hne)
            have HX8 := zH (And.intro (zab HX7.out.1 hg) (Nat.le_trans HX7.out.2 hg.size))
            have HP8 := zH (own_gr HP7.out hg hg5)
            have HQ8 := zH (own_gr HQ7.out hg hg5)
            clear hc hb hg KO3
            cases y2 with
            | true =>
              have hba := zad w8 (.cells #[.string ⟨#[113]⟩, .string ⟨#[114]⟩] 9)
              have HOA := zH (own_keep HQ8.out hba)
              have hbz : w3.heap.size + 2 <= w8.heap.size := HX8.out.2
              have hal : (w8.alloc (.cells #[.string ⟨#[113]⟩, .string ⟨#[114]⟩] 9)).heap.size = w8.heap.size + 1 := by simp
              have HP9A := zH (own_keep HP8.out hba)
              clear hba
              go_wp2_with (at_builtin; go_must (refine wpList_append_own_at _ rfl _ _ 24 rfl w3.heap.size 9 j0 (.string ByteArray.empty) 1 16 Tryz.underlying24 hj hy0 hy1 hy2 rfl (by decide) _ 0 (([] : List ByteArray).map Value.string) rfl HOA.out ⟨w8.heap.size, 0, none⟩ 2 2 (([⟨#[113]⟩, ⟨#[114]⟩] : List ByteArray).map Value.string) rfl rfl ?c1 ?c2 ?c3 ?c4 ?c5 ?_))
              case c1 => exact strs_cells (w := (w8.alloc (.cells #[.string ⟨#[113]⟩, .string ⟨#[114]⟩] 9))) (b := w8.heap.size) (o := 0) (xs := [⟨#[113]⟩, ⟨#[114]⟩]) (fun j hj => by rw [Nat.zero_add, strs_at w8 [⟨#[113]⟩, ⟨#[114]⟩] #[.string ⟨#[113]⟩, .string ⟨#[114]⟩] 2 rfl rfl j hj, List.getD, List.getElem?_eq_getElem hj]; rfl)
              case c2 => exact strs_one _
              case c3 => unfold maxLen; omega
              case c4 => omega
              case c5 => rw [hal]; omega
              intro vq w9 hown hgr hnn hat
              have hlow := (zB w3.heap.size (w8.alloc (.cells #[.string ⟨#[113]⟩, .string ⟨#[114]⟩] 9))).grown hgr (by rw [hal]; omega) (fun k hk => (HOA.out.lt k hk).1)
              have OWNq : Hid (w9.ownsRow w3.heap.size 9 1 vq ([⟨#[113]⟩, ⟨#[114]⟩] : List ByteArray).length (([⟨#[113]⟩, ⟨#[114]⟩] : List ByteArray).map Value.string)) := zH (by simpa using hown)
              have NNq := zH hnn
              have ATq := zH hat
              have HP9 := zH (HP9A.out.kept hgr (.inr (by simp [Value.ownBlock])))
              have hl1 := ((zB w3.heap.size w8).alloc (by omega) (.cells #[.string ⟨#[113]⟩, .string ⟨#[114]⟩] 9)).trans hlow
              have HC9 := zH (cur_low HC8.out hl1 hg5)
              have HG9 := zH (gr_low HG8.out (hl1.mono hw5))
              have HZ9 := zH (HZ8.out.low hl1 (Nat.lt_of_lt_of_le hB1 HBS5.out))
              have HX9 := zH (And.intro (gr_low HX8.out.1 hl1) (Nat.le_trans HX8.out.2 hl1.size))
              clear hown hgr hlow HOA hnn hat hl1 hal hbz
              have htp : TextsN (w.heap.size + 1) w9 ([] : List ByteArray) (.slice (some ⟨w3.heap.size, 0, none⟩) 0 0) := za3 (base := w3.heap.size) HP9.out (by simp) (by omega) (fun x hx => by cases hx)
              have htt : TextsN (w.heap.size + 1) w9 ([⟨#[113]⟩, ⟨#[114]⟩] : List ByteArray) vq := za3 (base := w3.heap.size) OWNq.out NNq.out (by omega) (fun x hx => by simp only [List.mem_cons, List.not_mem_nil, or_false] at hx; rcases hx with rfl | rfl <;> decide)
              have HOF := zH (out_base (out_gr HO5.out HX9.out.1 hgB) (show w.heap.size + 1 <= w1.heap.size by omega))
              have hkf := HOF.out.kids.kids
              have KBK := zH (block_raw htp htt hkf (by decide) (by decide) (by have := HZ9.out.size; omega))
              clear htp htt hkf
              go_wp2_with fail
              refine KBK.out.mono ?_
              rintro r w10 ⟨vn, rfl, htx, hfr, hb⟩
              have htx' := htx
              obtain ⟨za, zc, rfl, -⟩ := htx
              rw [show (([] : List ByteArray) ++ ([⟨#[113]⟩, ⟨#[114]⟩] : List ByteArray)).length = 2 from rfl] at htx' hfr
              have hap : (Value.slice za 2 zc).ownBlock = none \/ (Value.slice za 2 zc).ownBlock ≠ (Value.slice va LN vc).ownBlock := by
                cases hz : (Value.slice za 2 zc).ownBlock with
                | none => exact .inl rfl
                | some b => exact .inr fun e => by have h1 := hfr b hz; have h2 := (HOF.out.own.lt b e.symm).2; omega
              have HD : Hid (Dr (w.heap.size + 1) w10 8 ⟨#[]⟩ 0 (([] : List ByteArray) ++ ([⟨#[113]⟩, ⟨#[114]⟩] : List ByteArray)) L (.slice za 2 zc) (.slice va LN vc)) := zH ⟨rfl, rfl, Nat.zero_le _, htx', .inr (HOF.out.below hb), hap⟩
              have HC := zH (curKeep HC9.out hb)
              have HG := zH (zav HG9.out hb)
              obtain ⟨hsz, z0, z1, z2, z3, z4, fz⟩ := HZ9.out.step hb
              have HW : Hid (weight (.mk 8 ⟨#[]⟩ 0 (([] : List ByteArray) ++ ([⟨#[113]⟩, ⟨#[114]⟩] : List ByteArray)) (trees L)) <= 3 * W + 20) := zH (by
                rw [zau]
                have h1 := HWF.out; have h3 := HLFN.out
                have h2 : (([] : List ByteArray) ++ ([⟨#[113]⟩, ⟨#[114]⟩] : List ByteArray)).length + lens (([] : List ByteArray) ++ ([⟨#[113]⟩, ⟨#[114]⟩] : List ByteArray)) <= 6 := by decide
                show 0 + _ + _ <= _
                omega)
              clear htx' hb KBK hfr hap
              go_wp2_with fail
              refine bodyPost_ret (v := .agg #[.int .i64 8, .string ⟨#[]⟩, .int .i64 0, .slice za 2 zc, .slice va LN vc]) (by simp [results, Tryz.results84, go_sem, *]) rfl ?_
              exact zal HD.out HC.out HG.out hgl HW.out
            | false =>
              have htp : TextsN (w.heap.size + 1) w8 ([] : List ByteArray) (.slice (some ⟨w3.heap.size, 0, none⟩) 0 0) := za3 (base := w3.heap.size) HP8.out (by simp) (by omega) (fun x hx => by cases hx)
              have htt : TextsN (w.heap.size + 1) w8 ([] : List ByteArray) (.slice (some ⟨w3.heap.size + 1, 0, none⟩) 0 0) := za3 (base := w3.heap.size) HQ8.out (by simp) (by omega) (fun x hx => by cases hx)
              have HOF := zH (out_base (out_gr HO5.out HX8.out.1 hgB) (show w.heap.size + 1 <= w1.heap.size by omega))
              have hkf := HOF.out.kids.kids
              have KBK := zH (block_raw htp htt hkf (by decide) (by decide) (by have := HZ8.out.size; omega))
              clear htp htt hkf
              go_wp2_with fail
              refine KBK.out.mono ?_
              rintro r w9 ⟨vn, rfl, htx, hfr, hb⟩
              have htx' := htx
              obtain ⟨za, zc, rfl, -⟩ := htx
              rw [show (([] : List ByteArray) ++ ([] : List ByteArray)).length = 0 from rfl] at htx' hfr
              have hap : (Value.slice za 0 zc).ownBlock = none \/ (Value.slice za 0 zc).ownBlock ≠ (Value.slice va LN vc).ownBlock := by
                cases hz : (Value.slice za 0 zc).ownBlock with
                | none => exact .inl rfl
                | some b => exact .inr fun e => by have h1 := hfr b hz; have h2 := (HOF.out.own.lt b e.symm).2; omega
              have HD : Hid (Dr (w.heap.size + 1) w9 8 ⟨#[]⟩ 0 (([] : List ByteArray) ++ ([] : List ByteArray)) L (.slice za 0 zc) (.slice va LN vc)) := zH ⟨rfl, rfl, Nat.zero_le _, htx', .inr (HOF.out.below hb), hap⟩
              have HC := zH (curKeep HC8.out hb)
              have HG := zH (zav HG8.out hb)
              obtain ⟨hsz, z0, z1, z2, z3, z4, fz⟩ := HZ8.out.step hb
              have HW : Hid (weight (.mk 8 ⟨#[]⟩ 0 (([] : List ByteArray) ++ ([] : List ByteArray)) (trees L)) <= 3 * W + 20) := zH (by
                rw [zau]
                have h1 := HWF.out; have h3 := HLFN.out
                have h2 : (([] : List ByteArray) ++ ([] : List ByteArray)).length + lens (([] : List ByteArray) ++ ([] : List ByteArray)) <= 6 := by decide
                show 0 + _ + _ <= _
                omega)
              clear htx' hb KBK hfr hap
              go_wp2_with fail
              refine bodyPost_ret (v := .agg #[.int .i64 8, .string ⟨#[]⟩, .int .i64 0, .slice za 0 zc, .slice va LN vc]) (by simp [results, Tryz.results84, go_sem, *]) rfl ?_
              exact zal HD.out HC.out HG.out hgl HW.out
end DrawTree
end Go.Proofs.YtbigfeblomfflaaGreatDoor
