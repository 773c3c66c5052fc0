/-
  impl's parser: cascades.
-/
import Derived.Test.YtbflpocbjdccgaaGreatDoorBParCasK
namespace Go.Proofs.YtbflpocbjdccgaaGreatDoor.ParI
open Go.RowKit
open Strs Tree Gram Placed
open Go.Proofs.YtbflpocbjdccgaaGreatDoor.Parser

set_option maxRecDepth 10000 in
set_option maxHeartbeats 8000000 in
theorem cascade_any {n : Nat} (hx : XI n) {P : Cst} {p b0 : Nat} {w : World} {s : ByteArray} {vn vk : Value} {t0 : T} {kt : List T} (h : IS P p w) (hn : (rest P p).length ≤ n) (ho : Own b0 w (.mk 6 s 0 [] vn vk (t0 :: kt))) (hb : P.pb < b0) (hbw : b0 ≤ w.heap.size) (hkt : kt.length ≤ 3300000) :
    Calls Tryz.prog 42 #[.pointer (some ⟨P.pb, 0, none⟩), agg (.mk 6 s 0 [] vn vk (t0 :: kt))] w (SBack P b0 w (casOut (casLoop (expr n) [toE t0, eMsg s (toEs kt)] (rest P p)))) := by
  obtain ⟨i0, hi, hz0, hz1, hz2⟩ := info_parts infoE
  have KM := fun (w1 : World) (q : Nat) (h1 : IS P q w1) (hl : (rest P q).length ≤ n) => Lib.hid (message_any hx h1 hl)
  have KS1 := fun (w1 : World) (q : Nat) (h1 : IS P q w1) (hb : mk cSemi (rest P q) = true) => Lib.hid (skip_yes h1 hb)
  have KS0 := fun (w1 : World) (q : Nat) (h1 : IS P q w1) (hb : mk cSemi (rest P q) = false) => Lib.hid (skip_no h1 hb)
  have hp := good_iff.1 ho.good
  obtain ⟨hk1, hk2, hk3⟩ := ho.kids
  obtain ⟨fa, fc, hf1⟩ := Kit.row_form hp.names
  have hcase := own_cases hp.kids
  simp only [T.vn, T.vk, T.names, T.kids, List.length_nil, List.length_cons] at hf1 hcase hk1 hk2 hk3
  rcases hcase with ⟨-, h0⟩ | ⟨g, c, hf2⟩
  · omega
  subst hf1 hf2
  have hcap : kt.length + 1 ≤ c ∧ c ≤ maxLen := by
    obtain ⟨-, ⟨hv, -⟩ | ⟨g', cap, cur, hv, -, -, h1, h2, -⟩⟩ := hk1
    · cases hv
    · cases hv
      exact ⟨h1, h2⟩
  have hcells := row_cells hk1 rfl
  rw [row_cons] at hcells
  have ht0 : Own b0 w t0 := by
    have h1 := hk2.nd
    have h2 := hk2.lo
    rw [foots] at h1 h2
    rw [List.nodup_append] at h1
    exact ⟨goods_iff.1 hk2.good t0 (by simp), h1.1, fun b hb => h2 b (by simp [hb])⟩
  have hkk : Owns b0 w kt := by
    have h1 := hk2.nd
    have h2 := hk2.lo
    rw [foots] at h1 h2
    rw [List.nodup_append] at h1
    exact ⟨goods_iff.2 fun x hx => goods_iff.1 hk2.good x (by simp [hx]), h1.2.1, fun b hb => h2 b (by simp [hb])⟩
  have hdis : ∀ b, b ∈ foot t0 → b ∉ foots kt := by
    have h1 := hk2.nd
    rw [foots, List.nodup_append] at h1
    exact fun b hb hc => h1.2.2 b hb b hc rfl
  obtain ⟨ua, uc, ua', uc', hu1, hu2⟩ := good_forms ht0.good
  obtain ⟨uk, ut, un, uns, uvn, uvk, uks⟩ := t0
  simp only [T.vn, T.vk, T.names, T.kids] at hu1 hu2
  subst hu1 hu2
  have hadd : ∀ (o j : Nat), ((⟨g, o, none⟩ : Addr).add j) = ⟨g, o + j, none⟩ := fun o j => by unfold Addr.add; split <;> simp_all
  have d0 : w.cell? ⟨g, 0, none⟩ = some (.int .i64 uk) := by have := hcells 0 _ rfl; rwa [hadd] at this
  have d1 : w.cell? ⟨g, 1, none⟩ = some (.string ut) := by have := hcells 1 _ rfl; rwa [hadd] at this
  have d2 : w.cell? ⟨g, 2, none⟩ = some (.int .i64 un) := by have := hcells 2 _ rfl; rwa [hadd] at this
  have d3 : w.cell? ⟨g, 3, none⟩ = some (.slice ua uns.length uc) := by have := hcells 3 _ rfl; rwa [hadd] at this
  have d4 : w.cell? ⟨g, 4, none⟩ = some (.slice ua' uks.length uc') := by have := hcells 4 _ rfl; rwa [hadd] at this
  have hrow : ∀ (j : Nat) (u : Value), (row kt)[j]? = some u → w.cell? ((⟨g, 5, none⟩ : Addr).add j) = some u := fun j u hu => by
    have h1 := hcells (j + 5) u (by
      rw [List.getElem?_append_right (by simp [cells])]
      simpa [cells] using hu)
    rw [hadd] at h1 ⊢
    rw [show 5 + j = 0 + (j + 5) by omega]
    exact h1
  have hgl : g < w.heap.size := cell_lt d0
  have hB3 : Below w.heap.size w (((w.alloc (.cells #[.int .i64 6, .string s, .int .i64 0, .slice fa 0 fc, .slice (some ⟨g, 0, none⟩) (kt.length + 1) c] 25)).alloc (.cells #[.int .i64 0, .string ⟨#[]⟩, .int .i64 0, .slice none 0 0, .slice none 0 0] 25)).alloc (.cells #[.int .i64 6, .string s, .int .i64 0, .slice none 0 0, .slice none 0 0] 25)) :=
    (((Below.refl _ _).alloc (Nat.le_refl _) _).alloc (by simp) _).alloc (by simp; omega) _
  have hf3 := five_new w (.int .i64 6) (.string s) (.int .i64 0) (.slice fa 0 fc) (.slice (some ⟨g, 0, none⟩) (kt.length + 1) c) 25
  have hz3 := zero_new (w.alloc (.cells #[.int .i64 6, .string s, .int .i64 0, .slice fa 0 fc, .slice (some ⟨g, 0, none⟩) (kt.length + 1) c] 25)) 25
  have hm3 := five_new ((w.alloc (.cells #[.int .i64 6, .string s, .int .i64 0, .slice fa 0 fc, .slice (some ⟨g, 0, none⟩) (kt.length + 1) c] 25)).alloc (.cells #[.int .i64 0, .string ⟨#[]⟩, .int .i64 0, .slice none 0 0, .slice none 0 0] 25)) (.int .i64 6) (.string s) (.int .i64 0) (.slice none 0 0) (.slice none 0 0) 25
  have hw1 : (w.alloc (.cells #[.int .i64 6, .string s, .int .i64 0, .slice fa 0 fc, .slice (some ⟨g, 0, none⟩) (kt.length + 1) c] 25)).heap.size = w.heap.size + 1 := by simp
  have hw2 : ((w.alloc (.cells #[.int .i64 6, .string s, .int .i64 0, .slice fa 0 fc, .slice (some ⟨g, 0, none⟩) (kt.length + 1) c] 25)).alloc (.cells #[.int .i64 0, .string ⟨#[]⟩, .int .i64 0, .slice none 0 0, .slice none 0 0] 25)).heap.size = w.heap.size + 1 + 1 := by simp
  rw [hw1] at hz3
  rw [hw2] at hm3
  have hf3' := (hf3.step ((Below.refl _ _).alloc (Nat.le_refl _) (.cells #[.int .i64 0, .string ⟨#[]⟩, .int .i64 0, .slice none 0 0, .slice none 0 0] 25))).step ((Below.refl _ _).alloc (Nat.le_refl _) (.cells #[.int .i64 6, .string s, .int .i64 0, .slice none 0 0, .slice none 0 0] 25))
  have hz3' := hz3.step ((Below.refl _ _).alloc (Nat.le_refl _) (.cells #[.int .i64 6, .string s, .int .i64 0, .slice none 0 0, .slice none 0 0] 25))
  clear hf3 hz3 hw1 hw2
  obtain ⟨w3, hw3⟩ : ∃ w3, w3 = (((w.alloc (.cells #[.int .i64 6, .string s, .int .i64 0, .slice fa 0 fc, .slice (some ⟨g, 0, none⟩) (kt.length + 1) c] 25)).alloc (.cells #[.int .i64 0, .string ⟨#[]⟩, .int .i64 0, .slice none 0 0, .slice none 0 0] 25)).alloc (.cells #[.int .i64 6, .string s, .int .i64 0, .slice none 0 0, .slice none 0 0] 25)) := ⟨_, rfl⟩
  have hs3 : w3.heap.size = w.heap.size + 3 := by rw [hw3]; simp
  rw [← hw3] at hB3 hf3' hz3' hm3
  have HW3 := Lib.hid hw3
  have HB3 := Lib.hid hB3
  have HF3 := Lib.hid hf3'
  have HZ3 := Lib.hid hz3'
  have HM3 := Lib.hid hm3
  have HPS0 := Lib.hid h
  have HLO := Lib.hid h.lo
  have hpbl := h.size
  have hpl := h.le
  have h8 := h.fit.fit.len
  have HLEN := Lib.hid hn
  have HT0 := Lib.hid ht0
  have HKK := Lib.hid hkk
  have HDIS := Lib.hid hdis
  have HTX := Lib.hid hp.text
  have HG1 := Lib.hid (goods_one hkk.good)
  have HROW := Lib.hid hrow
  have HD0 := Lib.hid d0
  have HD1 := Lib.hid d1
  have HD2 := Lib.hid d2
  have HD3 := Lib.hid d3
  have HD4 := Lib.hid d4
  obtain ⟨hkc, hcm⟩ := hcap
  unfold maxLen at hcm
  have g4 : ∀ k, (w3.drewN k).cell? ⟨w.heap.size + 1 + 1, 4, none⟩ = some (.slice none 0 0) := fun k => cell_keep (draws_below w3 k) HM3.out.z4
  have k4 : ∀ k, (w3.drewN k).cell? ⟨w.heap.size, 4, none⟩ = some (.slice (some ⟨g, 0, none⟩) (kt.length + 1) c) := fun k => cell_keep (draws_below w3 k) HF3.out.z4
  have HRK : Hid (∀ k (j : Nat) (u : Value), (row kt)[j]? = some u → (w3.drewN k).cell? ((⟨g, 5, none⟩ : Addr).add j) = some u) := Lib.hid (fun k j u hu => by
    have h1 := hrow j u hu
    rw [hadd] at h1 ⊢
    exact cell_keep (hB3.trans ((draws_below w3 k).mono hB3.size)) h1)
  have f1 := hf3'.z1
  have f4 := hf3'.z4
  have e4 := hm3.z4
  clear h hn ho hx hp hk1 hk2 hk3 hcells ht0 hkk hdis hadd d0 d1 d2 d3 d4 hrow hB3 hf3' hz3' hm3 hw3
  generalize hG : casOut (casLoop (expr n) [toE (T.mk uk ut un uns (.slice ua uns.length uc) (.slice ua' uks.length uc') uks), eMsg s (toEs kt)] (rest P p)) = G
  have HG := Lib.hid hG; clear hG
  generalize hpb : P.pb = pb at *
  have HPB := Lib.hid hpb; clear hpb
  generalize hN : P.toks.length = N at *
  have HN := Lib.hid hN; clear hN
  unfold agg
  simp only [T.kind, T.text, T.num, T.vn, T.vk]
  generalize hK : kt.length = K at *
  have HK := Lib.hid hK
  go_enter Tryz.func42, Tryz.ntmps42
  go_upto_region 2 with fail
  rw [← HW3.out]
  go_cut [15] from 10 to 16 (fun v wx => ∃ fa' fc', v = .slice fa' K fc' ∧ wx.ownsRow b0 25 5 (.slice fa' K fc') K (row kt) ∧ (∀ b, b ∈ blk (.slice fa' K fc') → b = w3.heap.size) ∧ Five (w.heap.size + 1 + 1) (.int .i64 6) (.string s) (.int .i64 0) (.slice none 0 0) (.slice fa' K fc') wx ∧ Five w.heap.size (.int .i64 6) (.string s) (.int .i64 0) (.slice fa 0 fc) (.slice (some ⟨g, 0, none⟩) (K + 1) c) wx ∧ Zero (w.heap.size + 1) wx ∧ Below w.heap.size w wx ∧ w3.heap.size ≤ wx.heap.size)
  case first =>
    by_cases hc1 : c = 1
    · subst hc1
      obtain rfl : K = 0 := by omega
      go_region_law (first
        | (refine step_append_new (by rfl) _ _ _ (by rfl) b0 25 i0 (.agg #[.int .i64 0, .string ByteArray.empty, .int .i64 0, .slice none 0 0, .slice none 0 0]) 5 80 Tryz.underlying23 hi hz0 hz1 hz2 rfl (by decide) (by rfl)
            _ 0 _ (row kt) (by rfl) (by rw [row_len, HK.out]) (fun j u hu => by
              have h1 := (List.getElem?_eq_some_iff.1 hu).1
              rw [row_len, HK.out] at h1
              omega) HG1.out (by unfold maxLen; omega) (by omega) (show b0 ≤ w3.heap.size by omega) w3.heap.size (by simp) ?_
           intro fa' fc' w4 hown hgrow hat
           have hb4 := (draws_below w3 _).grown hgrow (Nat.le_refl _) (fun k hk => nomatch hk)
           have HM4 := Lib.hid (HM3.out.step hb4)
           have m4 := HM4.out.z4
           have m5 := HM4.out.fz 4))
      all_goals
        have hs5 : Below (w.heap.size + 1 + 1) w4 (w4.setCell ⟨w.heap.size + 1 + 1, 4, none⟩ (.slice fa' 0 fc')) := (Below.refl _ _).setCell (by show w.heap.size + 1 + 1 ≤ w.heap.size + 1 + 1; omega) _
        have hb5 : Below w.heap.size w (w4.setCell ⟨w.heap.size + 1 + 1, 4, none⟩ (.slice fa' 0 fc')) := (HB3.out.trans (hb4.mono (by omega))).trans (hs5.mono (by omega))
        have hsz := hs5.size
        have hsz4 := hb4.size
        have HF5 := Lib.hid ((HF3.out.step hb4).low hs5 (by omega))
        have HZ5 := Lib.hid ((HZ3.out.step hb4).low hs5 (by omega))
        have HM5 := Lib.hid (five_set4 HM4.out (.slice fa' 0 fc'))
        have HOWN5 := Lib.hid (own_frame hown fun b hb => set_heap w4 (w.heap.size + 1 + 1) 4 (.slice fa' 0 fc') (by have := hat b hb; omega))
        have HB5 := Lib.hid hb5
        have HSZ5 : Hid (w3.heap.size ≤ (w4.setCell ⟨w.heap.size + 1 + 1, 4, none⟩ (.slice fa' 0 fc')).heap.size) := Lib.hid (by omega)
        have HAT := Lib.hid hat
        clear hs5 hb5 hsz hsz4 hown hgrow hat hb4 m4 m5 HM4
        go_wp2_with fail
        go_meet
        exact ⟨fa', fc', rfl, HOWN5.out, HAT.out, HM5.out, HF5.out, HZ5.out, HB5.out, HSZ5.out⟩
    · have hk2 : (1 : Int) ≤ (K : Int) + 1 := by omega
      go_region_law (first
        | (refine step_append_new (by rfl) _ _ _ (by rfl) b0 25 i0 (.agg #[.int .i64 0, .string ByteArray.empty, .int .i64 0, .slice none 0 0, .slice none 0 0]) 5 80 Tryz.underlying23 hi hz0 hz1 hz2 rfl (by decide) (by rfl)
            ⟨g, 5, none⟩ K (c - 1) (row kt) (by rfl) (by rw [row_len, HK.out]) (HRK.out _) HG1.out (by unfold maxLen; omega) (by omega) (show b0 ≤ w3.heap.size by omega) w3.heap.size (by simp) ?_
           intro fa' fc' w4 hown hgrow hat
           have hb4 := (draws_below w3 _).grown hgrow (Nat.le_refl _) (fun k hk => nomatch hk)
           have HM4 := Lib.hid (HM3.out.step hb4)
           have m4 := HM4.out.z4
           have m5 := HM4.out.fz 4))
      all_goals
        have hs5 : Below (w.heap.size + 1 + 1) w4 (w4.setCell ⟨w.heap.size + 1 + 1, 4, none⟩ (.slice fa' K fc')) := (Below.refl _ _).setCell (by show w.heap.size + 1 + 1 ≤ w.heap.size + 1 + 1; omega) _
        have hb5 : Below w.heap.size w (w4.setCell ⟨w.heap.size + 1 + 1, 4, none⟩ (.slice fa' K fc')) := (HB3.out.trans (hb4.mono (by omega))).trans (hs5.mono (by omega))
        have hsz := hs5.size
        have hsz4 := hb4.size
        have HF5 := Lib.hid ((HF3.out.step hb4).low hs5 (by omega))
        have HZ5 := Lib.hid ((HZ3.out.step hb4).low hs5 (by omega))
        have HM5 := Lib.hid (five_set4 HM4.out (.slice fa' K fc'))
        have HOWN5 := Lib.hid (own_frame hown fun b hb => set_heap w4 (w.heap.size + 1 + 1) 4 (.slice fa' K fc') (by have := hat b hb; omega))
        have HB5 := Lib.hid hb5
        have HSZ5 : Hid (w3.heap.size ≤ (w4.setCell ⟨w.heap.size + 1 + 1, 4, none⟩ (.slice fa' K fc')).heap.size) := Lib.hid (by omega)
        have HAT := Lib.hid hat
        clear hs5 hb5 hsz hsz4 hown hgrow hat hb4 m4 m5 HM4
        go_wp2_with fail
        go_meet
        exact ⟨fa', fc', rfl, HOWN5.out, HAT.out, HM5.out, HF5.out, HZ5.out, HB5.out, HSZ5.out⟩
  case rest =>
    obtain ⟨fa', fc', rfl, hown, hat, hm4, hf4, hz4, hb4, hs4⟩ := hcut
    have hot := HT0.out.below hb4
    have hokk := HKK.out.below hb4
    have hom : Own b0 wc (T.mk 6 s 0 [] (.slice none 0 0) (.slice fa' K fc') kt) := own_node (by rfl) (by rfl) HTX.out (fun _ h => nomatch h) (nil_row _ _ _) (by rw [HK.out]; exact hown) hokk (fun _ h => nomatch h) (fun b hb hc => by
      have h1 := hat b hb
      have h2 := HKK.out.lt b hc
      omega)
    have hfm : ∀ b, b ∈ foot (T.mk 6 s 0 [] (.slice none 0 0) (.slice fa' K fc') kt) → b = w3.heap.size ∨ b ∈ foots kt := fun b hb => by
      rw [foot, blk_nil, List.nil_append] at hb
      rcases List.mem_append.1 hb with h1 | h1
      · exact .inl (hat b h1)
      · exact .inr h1
    have hdj : ∀ b, b ∈ foot (T.mk uk ut un uns (.slice ua uns.length uc) (.slice ua' uks.length uc') uks) → b ∉ foot (T.mk 6 s 0 [] (.slice none 0 0) (.slice fa' K fc') kt) := fun b hb hc => by
      rcases hfm b hc with h1 | h1
      · have h2 := HT0.out.lt b hb
        omega
      · exact HDIS.out b hb h1
    have hlit := lit2_row hot hom hdj (by omega)
    simp only [T.kind, T.text, T.num, T.vn, T.vk] at hlit
    have hba : Below wc.heap.size wc (wc.alloc (.cells #[.int .i64 uk, .string ut, .int .i64 un, .slice ua uns.length uc, .slice ua' uks.length uc', .int .i64 6, .string s, .int .i64 0, .slice none 0 0, .slice fa' K fc'] 25)).drew := ((Below.refl _ _).alloc (Nat.le_refl _) _).drew
    have hb6 : Below w.heap.size w (wc.alloc (.cells #[.int .i64 uk, .string ut, .int .i64 un, .slice ua uns.length uc, .slice ua' uks.length uc', .int .i64 6, .string s, .int .i64 0, .slice none 0 0, .slice fa' K fc'] 25)).drew := hb4.trans (hba.mono (by omega))
    have HLIT := Lib.hid (hlit.below (Below.refl _ _).drew)
    have HPS6 := Lib.hid (HPS0.out.below hb6)
    have HT6 := Lib.hid ((Turn.refl P w).low hb6)
    have HZ6 := Lib.hid (hz4.step hba)
    have HFAR : Hid (∀ b, b ∈ blk (.slice (some ⟨wc.heap.size, 0, none⟩) 2 2) → w.heap.size + 1 < b) := Lib.hid (fun b hb => by
      simp [blk, Value.ownBlock] at hb
      omega)
    have HFAR2 : Hid (∀ b, b ∈ foots [T.mk uk ut un uns (.slice ua uns.length uc) (.slice ua' uks.length uc') uks, T.mk 6 s 0 [] (.slice none 0 0) (.slice fa' K fc') kt] → b < w.heap.size ∨ w.heap.size + 1 < b) := Lib.hid (fun b hb => by
      rw [foots, foots, foots, List.append_nil] at hb
      rcases List.mem_append.1 hb with hb | hb
      · exact .inl (HT0.out.lt b hb)
      · rcases hfm b hb with h1 | h1
        · omega
        · exact .inl (HKK.out.lt b h1))
    have e0 := cell_keep hb4 HD0.out
    have e1 := cell_keep hb4 HD1.out
    have e2 := cell_keep hb4 HD2.out
    have e3 := cell_keep hb4 HD3.out
    have e4' := cell_keep hb4 HD4.out
    have f4' := hf4.z4
    obtain ⟨-, m0, m1, m2, m3, m4, -⟩ := hm4
    clear hown hat hf4 hz4 hot hokk hom hfm hdj hlit hba hb6 hb4 f1 f4 e4 g4 k4 HRK HROW HD0 HD1 HD2 HD3 HD4
    go_upto_region 3 with fail
    go_cut [6] from 17 to 22 (fun v wx => ∃ ts : List T, Row b0 wx ts v ∧ ts.length = 2 ∧ toEs ts = [toE (T.mk uk ut un uns (.slice ua uns.length uc) (.slice ua' uks.length uc') uks), eMsg s (toEs kt)] ∧ IS P p wx ∧ Turn P w wx ∧ Zero (w.heap.size + 1) wx ∧ (∀ b, b ∈ blk v → w.heap.size + 1 < b) ∧ (∀ b, b ∈ foots ts → b < w.heap.size ∨ w.heap.size + 1 < b))
    case first =>
      go_region
      all_goals
        go_wp2_with fail
        go_meet
        exact ⟨_, HLIT.out, rfl, rfl, HPS6.out, HT6.out, HZ6.out, HFAR.out, HFAR2.out⟩
    case rest =>
      clear HLIT HPS6 HT6 HZ6 HFAR HFAR2 e0 e1 e2 e3 e4' f4' m0 m1 m2 m3 m4
      obtain ⟨ts, hrow, hts, htoe, hps, htr, hz, hfar, hfar2⟩ := hcut
      have HG0 : Hid (G = casOut (casLoop (expr n) (toEs ts) (rest P p))) := Lib.hid (by rw [htoe]; exact HG.out.symm)
      have HROW := Lib.hid hrow
      have HPSL := Lib.hid hps
      have HTRL := Lib.hid htr
      have HZL := Lib.hid hz
      have HFARL := Lib.hid hfar
      have HFARM := Lib.hid hfar2
      clear hrow htoe hps htr hz hfar hfar2
      go_wp2_with fail
      go_loopw [6] (fun v wr => ∃ (ts : List T) (q : Nat), p ≤ q ∧ ts.length ≤ q + 2 ∧ G = casOut (casLoop (expr n) (toEs ts) (rest P q)) ∧ IS P q wr ∧ Turn P w wr ∧ Row b0 wr ts v ∧ Zero (w.heap.size + 1) wr ∧ (∀ b, b ∈ blk v → w.heap.size + 1 < b) ∧ (∀ b, b ∈ foots ts → b < w.heap.size ∨ w.heap.size + 1 < b)) (fun _ wr => lft pb wr)
      case atStart => exact ⟨ts, p, Nat.le_refl _, by omega, HG0.out, HPSL.out, HTRL.out, HROW.out, HZL.out, HFARL.out, HFARM.out⟩
      case round =>
        clear HG0 HROW HPSL HTRL HZL HFARL HFARM hts ts
        obtain ⟨ts, q, hpq, hlen, hgo, hps, htr, hrow, hz, hfar, hfar2⟩ := hrel
        have HGO := Lib.hid hgo; clear hgo
        have HPS := Lib.hid hps
        have hqN := hps.le
        rw [HN.out] at hqN
        have hpl2 := hps.lft
        rw [HPB.out, HN.out] at hpl2
        have hpl3 := Lib.hid hpl2
        have hgw : w.heap.size ≤ wr.heap.size := htr.size
        clear hps hpl2
        have HTR := Lib.hid htr; clear htr
        obtain ⟨ra, rc, rfl⟩ := hrow.form
        have HR1 := Lib.hid hrow; clear hrow
        have HZ1 := Lib.hid hz; clear hz
        have HFAR := Lib.hid hfar; clear hfar
        have HFAR2 := Lib.hid hfar2; clear hfar2
        have HQN : Hid ((rest P q).length ≤ n) := Lib.hid (by
          have h1 := HLEN.out
          rw [rest_len, HN.out] at h1 ⊢
          omega)
        cases hh : mk cSemi (rest P q) with
        | false =>
          have KS := KS0 wr q HPS.out hh
          have HG2 : Hid (G = some (.mk 7 none_ 0 [] (toEs ts), rest P q)) := Lib.hid (by rw [HGO.out, cas_stop hh]; rfl)
          clear hh
          go_wp2_with fail
          refine KS.out.mono ?_
          rintro e w4 ⟨rfl, hb4⟩
          have HPS4 := Lib.hid (HPS.out.below hb4)
          have HT4 := Lib.hid (HTR.out.below hb4)
          have HR4 := Lib.hid (HR1.out.below hb4)
          obtain ⟨hszz, y0, y1, y2, y3, y4, yfz⟩ := HZ1.out.step hb4
          clear hb4 KS
          go_wp2_with fail
          have hb9 := put5_below (Below.refl w.heap.size w4) (B := w.heap.size + 1) (Nat.le_succ _) (.int .i64 7) (.string ⟨#[]⟩) (.int .i64 0) (.slice none 0 0) (.slice ra ts.length rc)
          refine bodyPost_ret (v := .agg #[.int .i64 7, .string ⟨#[]⟩, .int .i64 0, .slice none 0 0, .slice ra ts.length rc]) (by simp [results, Tryz.results42, go_sem, *]) rfl ?_
          have hnode := HR4.out.node (k := 7) (n := 0) (s := ⟨#[]⟩) (by rfl) (by rfl) (Nat.zero_le _)
          exact .inl ⟨.mk 7 ⟨#[]⟩ 0 [] (.slice none 0 0) (.slice ra ts.length rc) ts, q, rfl, Own.put5 hnode (B := w.heap.size + 1) (fun hm => by
            rw [foot, blk_nil, List.nil_append] at hm
            rcases List.mem_append.1 hm with h1 | h1
            · have h2 := HFAR.out _ h1
              omega
            · have h2 := HFAR2.out _ h1
              omega) _ _ _ _ _, HPS4.out.low hb9 HLO.out, HT4.out.low hb9, by rw [HG2.out]; rfl⟩
        | true =>
          have KS := KS1 wr q HPS.out hh
          have HH := Lib.hid hh
          have hq1 := mk_lt' hh
          rw [HN.out] at hq1
          clear hh
          go_wp2_with fail
          refine KS.out.mono ?_
          rintro e w3' ⟨rfl, h3, ht3⟩
          have KE := KM w3' (q + 1) h3 (by
            have h1 := HQN.out
            rw [rest_len, HN.out] at h1 ⊢
            omega)
          have HT3 := Lib.hid (HTR.out.trans ht3)
          have HR3 := Lib.hid (HR1.out.turn ht3 (by rw [HPB.out]; exact hb))
          have HZ3 := Lib.hid (HZ1.out.turn ht3 (by rw [HPB.out]; omega))
          have HRL := Lib.hid (fun b hb => (HR3.out.lt b hb).2)
          have hg3 : w.heap.size ≤ w3'.heap.size := HT3.out.size
          have hg3' : w.heap.size + 1 < w3'.heap.size := HZ3.out.size
          have hgb : b0 ≤ w3'.heap.size := by omega
          clear h3 ht3 KS
          go_wp2_with fail
          refine KE.out.mono ?_
          rintro e w4 (⟨t, q4, rfl, ho4, h4, ht4, hg4⟩ | ⟨⟨v, rfl⟩, ht4, hg4⟩)
          · have HO4 := Lib.hid ho4
            have HPS4 := Lib.hid h4
            have HT4 := Lib.hid (HT3.out.trans ht4)
            have HR4 := Lib.hid (HR3.out.turn ht4 (by rw [HPB.out]; exact hb))
            have HZ4 := Lib.hid (HZ3.out.turn ht4 (by rw [HPB.out]; omega))
            have hg4' : w3'.heap.size ≤ w4.heap.size := ht4.size
            have HE4 := Lib.hid hg4
            have HQ4 : Hid (q + 1 < q4 ∧ q4 ≤ N) := Lib.hid (by
              have h1 := message_lt (expr_short n) hg4
              have h2 := h4.le
              rw [rest_len, rest_len, HN.out] at h1
              rw [HN.out] at h2
              omega)
            obtain ⟨hq4, hq5⟩ := HQ4.out
            unfold agg
            clear h4 ht4 hg4 ho4 KE
            go_wp2_with (at_builtin; go_must (refine wpList_append_own_at _ rfl _ _ 23 rfl b0 25 i0 (.agg #[.int .i64 0, .string ByteArray.empty, .int .i64 0, .slice none 0 0, .slice none 0 0]) 5 80 Tryz.underlying23 hi hz0 hz1 hz2 rfl (by decide) _ ts.length (row ts) rfl (HR4.out.below ((Below.refl _ _).alloc (Nat.le_refl _) _)).own ⟨w4.heap.size, 0, none⟩ 1 1 (row [t]) rfl rfl ?c1 ?c2 ?c3 ?c4 ?c5 ?_))
            case c1 => exact tree_cells w4 t _
            case c2 => exact goods_one ⟨HO4.out.good, trivial⟩
            case c3 => unfold maxLen; omega
            case c4 => omega
            case c5 => simp; omega
            intro v5 w5 hown hgr hnn hat
            have HR5 := Lib.hid (HR4.out.app HO4.out hgb HRL.out hown hgr hat)
            have hba : Below (w.heap.size + 1 + 1) w4 (w4.alloc (.cells #[.int .i64 t.kind, .string t.text, .int .i64 t.num, t.vn, t.vk] 25)) := (Below.refl _ _).alloc (by omega) _
            have hlow : Below (w.heap.size + 1 + 1) w4 w5 := hba.grown hgr (by simp; omega) (fun k hk => by
              have h1 := HFAR.out k (by unfold blk; rw [hk]; simp)
              omega)
            have hat2 : ∀ b, b ∈ blk v5 → w.heap.size + 1 < b := fun b hb => by
              unfold blk at hb
              rcases hat with e | e
              · rw [e] at hb
                exact HFAR.out b hb
              · rw [e] at hb
                simp at hb
                omega
            have HFAR5 := Lib.hid hat2
            have HFARX : Hid (∀ b, b ∈ foots (ts ++ [t]) → b < w.heap.size ∨ w.heap.size + 1 < b) := Lib.hid (fun b hb => by
              rw [foots_append, foots, foots, List.append_nil] at hb
              rcases List.mem_append.1 hb with h1 | h1
              · exact HFAR2.out b h1
              · have := HO4.out.lo b h1
                omega)
            have HPS5 := Lib.hid (HPS4.out.low (hlow.mono (by omega)) HLO.out)
            have HT5 := Lib.hid (HT4.out.low (hlow.mono (by omega)))
            have HZ5 := Lib.hid (HZ4.out.low hlow (by omega))
            have HG5 : Hid (G = casOut (casLoop (expr n) (toEs (ts ++ [t])) (rest P q4))) := Lib.hid (by rw [HGO.out, cas_go (expr_short n) HH.out (by rw [rest_tail]; exact HE4.out), toEs_append]; rfl)
            clear hown hgr hnn hat hat2 hba hlow
            go_wp2_with fail
            go_roundw
            case rel => exact ⟨ts ++ [t], q4, by omega, by simp; omega, HG5.out, HPS5.out, HT5.out, HR5.out, HZ5.out, HFAR5.out, HFARX.out⟩
            case measure =>
              have h1 := HPS5.out.lft
              rw [HPB.out, HN.out] at h1
              rw [h1, hpl3.out]
              omega
          · have HG2 : Hid (G = none) := Lib.hid (by rw [HGO.out, cas_none HH.out (by rw [rest_tail]; exact hg4)]; rfl)
            have HT4 := Lib.hid (HT3.out.trans ht4)
            clear ht4 hg4 KE
            go_wp2_with fail
            exact ⟨rfl, .inr ⟨⟨_, rfl⟩, HT4.out, HG2.out⟩⟩
end Go.Proofs.YtbflpocbjdccgaaGreatDoor.ParI
