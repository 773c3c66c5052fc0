/-
  spec.l2Selector: the selector that it reads at a place. It writes nothing that was there.
-/
import Derived.Test.YtamjfbjkdicmcaaGreatDoorBSpecColon
import Derived.Test.YtamjfbjkdicmcaaGreatDoorBSpecRead2
import Derived.Test.YtamjfbjkdicmcaaGreatDoorBSpecSel
import Derived.Test.YtamjfbjkdicmcaaGreatDoorBSpecStarts
namespace Go.Proofs.YtamjfbjkdicmcaaGreatDoor.SpecSymbol
open Go.RowKit
open Strs SpecTok SpecName SpecRead2 SpecSel SpecStarts
structure Box (w : World) (B : Nat) (wr : World) : Prop where
  below : Below B w wr
  size : B + 1 ≤ wr.heap.size
  c0 : wr.cell? ⟨B, 0, none⟩ = some (.int .i64 0)
  c1 : wr.cell? ⟨B, 1, none⟩ = some (.string ⟨#[]⟩)
  c2 : wr.cell? ⟨B, 2, none⟩ = some (.int .i64 0)
  fz : ∀ o, wr.frozen? ⟨B, o, none⟩ = false
theorem Box.step {w wr w' : World} {B : Nat} (h : Box w B wr) (hb : Below wr.heap.size wr w') : Box w B w' :=
  ⟨h.below.trans (hb.mono (by have := h.size; omega)), Nat.le_trans h.size hb.size, cell_keep hb h.c0, cell_keep hb h.c1, cell_keep hb h.c2, fun o => (hb.frozen (p := ⟨B, o, none⟩) (by have := h.size; simp; omega)).trans (h.fz o)⟩
theorem box_new (w : World) : Box w w.heap.size (w.alloc (.cells #[.int .i64 0, .string ⟨#[]⟩, .int .i64 0] 31)) := by
  refine ⟨(Below.refl _ _).alloc (Nat.le_refl _) _, by simp, ?_, ?_, ?_, ?_⟩
  all_goals first | (intro o; go_simp) | go_simp
theorem binaries_size : ∀ x ∈ Tok.binaries, x.size ≤ 1048576 := by
  intro x hx
  simp only [Tok.binaries, _root_.List.mem_cons, _root_.List.not_mem_nil, or_false] at hx
  rcases hx with rfl | rfl | rfl | rfl | rfl | rfl | rfl | rfl | rfl | rfl | rfl | rfl | rfl | rfl | rfl <;> (show _ ≤ _; simp [ByteArray.size])
set_option maxHeartbeats 4000000 in
theorem selector_op (s : ByteArray) (A : Int) (p : Nat) (w : World) (hA : A = p) (hp : p ≤ s.size) (hs : s.size ≤ 1048576) (h : (Tok.starts s p Tok.binaries).toList.isEmpty = false) :
    Calls Tryz.prog 40 #[.string s, .int .i64 A] w fun e w' => e = .returned (tv (Tok.selectorAt s p)) ∧ Below w.heap.size w w' := by
  subst hA
  have HN := Lib.hid (Tok.selectorAt_op s p h)
  have KS := fun v w hat => Lib.hid (starts_any s p p v Tok.binaries w rfl hp hs (by decide) binaries_size hat)
  have BX := Lib.hid (box_new w)
  have hops : (Tok.starts s p Tok.binaries).size ≤ 1048576 := Tok.starts_size s p Tok.binaries _ binaries_size
  generalize Tok.starts s p Tok.binaries = op at *
  go_enter Tryz.func40, Tryz.ntmps40
  go_wp2_with fail
  refine (binaries_any _).mono ?_
  rintro e w1 ⟨a, c, rfl, hat, hb1⟩
  have HAT := Lib.hid hat; clear hat
  have BX1 := Lib.hid (BX.out.step hb1); clear BX hb1
  go_wp2_with fail
  refine (KS _ w1 HAT.out).out.mono ?_
  rintro e w2 ⟨rfl, hb2⟩
  have BX2 := BX1.out.step hb2; clear BX1 hb2
  obtain ⟨hbw, hsz, c0, c1, c2, hf⟩ := BX2
  go_wp2_with fail
  exact bodyPost_ret (v := .tuple #[.agg #[.int .i64 5, .string op, .int .i64 0], .int .i64 ((p : Int) + (op.size : Int))]) (by simp [results, Tryz.results40, go_sem, *]) rfl ⟨by rw [HN.out]; rfl, (by repeat (first | assumption | refine Below.setCell ?_ (by exact Nat.le_refl _) _))⟩
set_option maxHeartbeats 4000000 in
theorem selector_no (s : ByteArray) (A : Int) (p : Nat) (w : World) (hA : A = p) (hp : p ≤ s.size) (hs : s.size ≤ 1048576) (h : (Tok.starts s p Tok.binaries).toList.isEmpty = true) (hla : Tok.letterAt s.data.toList p = false) :
    Calls Tryz.prog 40 #[.string s, .int .i64 A] w fun e w' => e = .returned (tv (Tok.selectorAt s p)) ∧ Below w.heap.size w w' := by
  subst hA
  have KS := fun v w hat => Lib.hid (starts_any s p p v Tok.binaries w rfl hp hs (by decide) binaries_size hat)
  have BX := Lib.hid (box_new w)
  have HN := Lib.hid (Tok.selectorAt_no s p h hla)
  generalize Tok.starts s p Tok.binaries = op at *
  by_cases hlt : p < s.size
  · have hl : Tok.letter (s[p]'hlt) = false := by rw [← letterAt_is s p hlt]; exact hla
    have KL := fun w => Lib.hid (letter_is (s[p]'hlt) false w hl)
    clear hla hl
    go_enter Tryz.func40, Tryz.ntmps40
    go_wp2_with fail
    refine (binaries_any _).mono ?_
    rintro e' w1 ⟨a, c, rfl, hat, hb1⟩
    have HAT := Lib.hid hat; clear hat
    have BX1 := Lib.hid (BX.out.step hb1); clear BX hb1
    go_wp2_with fail
    refine (KS _ w1 HAT.out).out.mono ?_
    rintro e' w2 ⟨rfl, hb2⟩
    have BX2 := Lib.hid (BX1.out.step hb2); clear BX1 hb2
    go_wp2_with fail
    refine (KL _).out.mono ?_
    rintro e' w3 ⟨rfl, rfl⟩
    obtain ⟨hbw, hsz, c0, c1, c2, hf⟩ := BX2.out
    go_wp2_with fail
    exact bodyPost_ret (v := .tuple #[.agg #[.int .i64 0, .string ⟨#[]⟩, .int .i64 0], .int .i64 0]) (by simp [results, Tryz.results40, go_sem, *]) rfl ⟨by rw [HN.out]; rfl, (by repeat (first | assumption | refine Below.setCell ?_ (by exact Nat.le_refl _) _))⟩
  · clear hla
    go_enter Tryz.func40, Tryz.ntmps40
    go_wp2_with fail
    refine (binaries_any _).mono ?_
    rintro e' w1 ⟨a, c, rfl, hat, hb1⟩
    have HAT := Lib.hid hat; clear hat
    have BX1 := Lib.hid (BX.out.step hb1); clear BX hb1
    go_wp2_with fail
    refine (KS _ w1 HAT.out).out.mono ?_
    rintro e' w2 ⟨rfl, hb2⟩
    have BX2 := Lib.hid (BX1.out.step hb2); clear BX1 hb2
    obtain ⟨hbw, hsz, c0, c1, c2, hf⟩ := BX2.out
    go_wp2_with fail
    exact bodyPost_ret (v := .tuple #[.agg #[.int .i64 0, .string ⟨#[]⟩, .int .i64 0], .int .i64 0]) (by simp [results, Tryz.results40, go_sem, *]) rfl ⟨by rw [HN.out]; rfl, (by repeat (first | assumption | refine Below.setCell ?_ (by exact Nat.le_refl _) _))⟩
theorem colon_is (s : ByteArray) (i : Nat) (b : Bool) (w : World) (hl : i ≤ s.size) (hs : s.size ≤ 1048576) (h : Tok.colon s.data.toList i = b) :
    Calls Tryz.prog 65 #[.string s, .int .i64 (i : Nat)] w fun e w' => e = .returned (.bool b) ∧ w = w' := by subst h; exact colon_any s i i w rfl hl hs
set_option maxHeartbeats 4000000 in
theorem selector_plain (s : ByteArray) (A : Int) (p : Nat) (w : World) (hA : A = p) (hs : s.size ≤ 1048576) (h : (Tok.starts s p Tok.binaries).toList.isEmpty = true) (hlt : p < s.size) (hla : Tok.letterAt s.data.toList p = true) (hc : Tok.colon s.data.toList (Tok.run s.data.toList p) = false) :
    Calls Tryz.prog 40 #[.string s, .int .i64 A] w fun e w' => e = .returned (tv (Tok.selectorAt s p)) ∧ Below w.heap.size w w' := by
  have hp : p ≤ s.size := by omega
  subst hA
  have KS := fun v w hat => Lib.hid (starts_any s p p v Tok.binaries w rfl hp hs (by decide) binaries_size hat)
  have BX := Lib.hid (box_new w)
  have hl : Tok.letter (s[p]'hlt) = true := by rw [← letterAt_is s p hlt]; exact hla
  have KL := fun w => Lib.hid (letter_is (s[p]'hlt) true w hl)
  have HLA := Lib.hid hla
  have HO := Lib.hid h
  have hle := Tok.run_le s.data.toList p (by rw [len_list]; exact hp)
  rw [len_list] at hle
  have KR := fun w => Lib.hid (run_any s p p w rfl hp (by unfold maxLen; omega))
  have HE : Hid (Tok.selEnd s.data.toList p = Tok.run s.data.toList p) := by show _ = _; unfold Tok.selEnd; rw [if_neg (by rw [hc]; simp)]
  have KC := fun w => Lib.hid (colon_is s (Tok.run s.data.toList p) false w hle.2 hs hc)
  clear hc hla hl
  generalize Tok.run s.data.toList p = e at *
  generalize hop : Tok.starts s p Tok.binaries = op at *
  rw [← hop] at HO
  have HOP := Lib.hid hop; clear hop
  obtain ⟨hpe, hel⟩ := hle
  go_enter Tryz.func40, Tryz.ntmps40
  go_wp2_with fail
  refine (binaries_any _).mono ?_
  rintro e' w1 ⟨a, c, rfl, hat, hb1⟩
  have HAT := Lib.hid hat; clear hat
  have BX1 := Lib.hid (BX.out.step hb1); clear BX hb1
  go_wp2_with fail
  refine (KS _ w1 HAT.out).out.mono ?_
  rintro e' w2 ⟨rfl, hb2⟩
  have BX2 := Lib.hid (BX1.out.step hb2); clear BX1 hb2
  go_wp2_with fail
  refine (KL _).out.mono ?_
  rintro e' w3 ⟨rfl, rfl⟩
  go_wp2_with fail
  refine (KR _).out.mono ?_
  rintro e' w3 ⟨rfl, rfl⟩
  go_wp2_with fail
  refine (KC _).out.mono ?_
  rintro e' w3 ⟨rfl, rfl⟩
  have hsz1 : (s.extract p (e)).size ≤ 1048576 := by rw [ByteArray.size_extract]; omega
  have HX := Lib.hid (Tok.selectorAt_x s p (e) HO.out HLA.out (HE.out))
  by_cases hsel : Tok.sel (s.extract p (e)) = true
  · have KSEL := fun w => Lib.hid (sel_is (s.extract p (e)) true w hsz1 hsel)
    have HN : Hid (Tok.selectorAt s p = some (⟨5, s.extract p (e), 0⟩, e)) := HX.out.trans (if_pos hsel)
    clear hsel HX
    go_wp2_with fail
    refine (KSEL _).out.mono ?_
    rintro e' w3 ⟨rfl, hb3⟩
    have BX3 := BX2.out.step hb3; clear BX2 hb3
    obtain ⟨hbw, hsz, c0, c1, c2, hf⟩ := BX3
    go_wp2_with fail
    exact bodyPost_ret (v := .tuple #[.agg #[.int .i64 5, .string (s.extract p (e)), .int .i64 0], .int .i64 ((e : Nat) : Int)]) (by simp [results, Tryz.results40, go_sem, *]) rfl ⟨by rw [HN.out]; rfl, (by repeat (first | assumption | refine Below.setCell ?_ (by exact Nat.le_refl _) _))⟩
  · have hself : Tok.sel (s.extract p (e)) = false := by simpa using hsel
    have KSEL := fun w => Lib.hid (sel_is (s.extract p (e)) false w hsz1 hself)
    have HN : Hid (Tok.selectorAt s p = none) := HX.out.trans (if_neg hsel)
    clear hsel hself HX
    go_wp2_with fail
    refine (KSEL _).out.mono ?_
    rintro e' w3 ⟨rfl, hb3⟩
    have BX3 := BX2.out.step hb3; clear BX2 hb3
    obtain ⟨hbw, hsz, c0, c1, c2, hf⟩ := BX3
    go_wp2_with fail
    exact bodyPost_ret (v := .tuple #[.agg #[.int .i64 0, .string ⟨#[]⟩, .int .i64 0], .int .i64 0]) (by simp [results, Tryz.results40, go_sem, *]) rfl ⟨by rw [HN.out]; rfl, (by repeat (first | assumption | refine Below.setCell ?_ (by exact Nat.le_refl _) _))⟩
set_option maxHeartbeats 4000000 in
theorem selector_keys (s : ByteArray) (A : Int) (p : Nat) (w : World) (hA : A = p) (hs : s.size ≤ 1048576) (h : (Tok.starts s p Tok.binaries).toList.isEmpty = true) (hlt : p < s.size) (hla : Tok.letterAt s.data.toList p = true) (hc : Tok.colon s.data.toList (Tok.run s.data.toList p) = true) :
    Calls Tryz.prog 40 #[.string s, .int .i64 A] w fun e w' => e = .returned (tv (Tok.selectorAt s p)) ∧ Below w.heap.size w w' := by
  have hp : p ≤ s.size := by omega
  subst hA
  have KS := fun v w hat => Lib.hid (starts_any s p p v Tok.binaries w rfl hp hs (by decide) binaries_size hat)
  have BX := Lib.hid (box_new w)
  have hl : Tok.letter (s[p]'hlt) = true := by rw [← letterAt_is s p hlt]; exact hla
  have KL := fun w => Lib.hid (letter_is (s[p]'hlt) true w hl)
  have HLA := Lib.hid hla
  have HO := Lib.hid h
  have hle := Tok.run_le s.data.toList p (by rw [len_list]; exact hp)
  rw [len_list] at hle
  have KR := fun w => Lib.hid (run_any s p p w rfl hp (by unfold maxLen; omega))
  have HE : Hid (Tok.selEnd s.data.toList p = Tok.selGo s.data.toList (s.data.toList.length + 1) (Tok.run s.data.toList p + 1)) := by show _ = _; unfold Tok.selEnd; rw [if_pos hc]
  have KC := fun w => Lib.hid (colon_is s (Tok.run s.data.toList p) true w hle.2 hs hc)
  have hcl : Tok.run s.data.toList p + 1 ≤ s.size := by have := Tok.colon_lt _ _ hc; rw [len_list] at this; omega
  clear hc hla hl
  have HLEN : Hid (s.data.toList.length = s.size) := len_list s
  generalize Tok.run s.data.toList p = r at *
  generalize hop : Tok.starts s p Tok.binaries = op at *
  rw [← hop] at HO
  have HOP := Lib.hid hop; clear hop
  obtain ⟨hpr, hrl⟩ := hle
  have KR1 := fun w => Lib.hid (run_any s ((r : Int) + 1) (r + 1) w (by omega) hcl (by unfold maxLen; omega))
  go_enter Tryz.func40, Tryz.ntmps40
  go_wp2_with fail
  refine (binaries_any _).mono ?_
  rintro e' w1 ⟨a, c, rfl, hat, hb1⟩
  have HAT := Lib.hid hat; clear hat
  have BX1 := Lib.hid (BX.out.step hb1); clear BX hb1
  go_wp2_with fail
  refine (KS _ w1 HAT.out).out.mono ?_
  rintro e' w2 ⟨rfl, hb2⟩
  have BX2 := Lib.hid (BX1.out.step hb2); clear BX1 hb2
  go_wp2_with fail
  refine (KL _).out.mono ?_
  rintro e' w3 ⟨rfl, rfl⟩
  go_wp2_with fail
  refine (KR _).out.mono ?_
  rintro e' w3 ⟨rfl, rfl⟩
  go_wp2_with fail
  refine (KC _).out.mono ?_
  rintro e' w3 ⟨rfl, rfl⟩
  go_wp2_with fail
  refine (KR1 _).out.mono ?_
  rintro e' w3 ⟨rfl, rfl⟩
  generalize hr1 : Tok.run s.data.toList (r + 1) = r1 at *
  have HR1 := Lib.hid hr1; clear hr1
  go_wp2_with fail
  go_loop [7, 8] (fun j q => ∃ f e n : Nat, p ≤ e ∧ e ≤ s.size ∧ s.size < f + e ∧ n = Tok.run s.data.toList e ∧ j = .int .i64 e ∧ q = .int .i64 n ∧ Tok.selEnd s.data.toList p = Tok.selGo s.data.toList f e) (fun j _ => s.size - (intOf j).toNat)
  case atStart => exact ⟨s.data.toList.length + 1, r + 1, r1, by omega, hcl, by have := HLEN.out; omega, HR1.out.symm, by go_num, rfl, HE.out⟩
  case round =>
    obtain ⟨f, e, n, hpe, hel, hfe, hn, rfl, rfl, hgo⟩ := hrel
    have hne := Tok.run_le s.data.toList e (by rw [len_list]; exact hel)
    rw [len_list, ← hn] at hne
    have HNR := Lib.hid hn; clear hn
    have HGO := Lib.hid hgo; clear hgo
    obtain ⟨hen, hns⟩ := hne
    by_cases hgt : e < n
    · have hgti : (e : Int) < (n : Int) := by omega
      by_cases hcn : Tok.colon s.data.toList n = true
      · have KC2 := fun w => Lib.hid (colon_is s n true w hns hs hcn)
        have hn1 : n + 1 ≤ s.size := by have := Tok.colon_lt _ _ hcn; rw [len_list] at this; omega
        have KR2 := fun w => Lib.hid (run_any s ((n : Int) + 1) (n + 1) w (by omega) hn1 (by unfold maxLen; omega))
        obtain ⟨f, rfl⟩ : ∃ g, f = g + 1 := ⟨f - 1, by omega⟩
        have HG2 : Hid (Tok.selEnd s.data.toList p = Tok.selGo s.data.toList f (n + 1)) := by
          have h1 := Tok.selGo_go s.data.toList f e (by rw [← HNR.out]; exact ⟨hgt, hcn⟩)
          rw [← HNR.out] at h1
          exact HGO.out.trans h1
        clear hcn
        go_wp2_with fail
        refine (KC2 _).out.mono ?_
        rintro e' w3 ⟨rfl, rfl⟩
        go_wp2_with fail
        refine (KR2 _).out.mono ?_
        rintro e' w3 ⟨rfl, rfl⟩
        generalize hr2 : Tok.run s.data.toList (n + 1) = r2 at *
        have HR2 := Lib.hid hr2; clear hr2
        go_wp2_with fail
        go_round
        case rel => exact ⟨f, n + 1, r2, by omega, hn1, by omega, HR2.out.symm, by go_num, rfl, HG2.out⟩
        case measure => simp [intOf]; omega
      · rw [Bool.not_eq_true] at hcn
        have KC2 := fun w => Lib.hid (colon_is s n false w hns hs hcn)
        have HE2 : Hid (Tok.selEnd s.data.toList p = e) := HGO.out.trans (Tok.selGo_stop _ f e (by rw [← HNR.out, hcn]; simp))
        clear hcn
        go_wp2_with fail
        refine (KC2 _).out.mono ?_
        rintro e' w3 ⟨rfl, rfl⟩
        have hsz1 : (s.extract p (e)).size ≤ 1048576 := by rw [ByteArray.size_extract]; omega
        have HX := Lib.hid (Tok.selectorAt_x s p (e) HO.out HLA.out (HE2.out))
        by_cases hsel : Tok.sel (s.extract p (e)) = true
        · have KSEL := fun w => Lib.hid (sel_is (s.extract p (e)) true w hsz1 hsel)
          have HN : Hid (Tok.selectorAt s p = some (⟨5, s.extract p (e), 0⟩, e)) := HX.out.trans (if_pos hsel)
          clear hsel HX
          go_wp2_with fail
          refine (KSEL _).out.mono ?_
          rintro e' w3 ⟨rfl, hb3⟩
          have BX3 := BX2.out.step hb3; clear BX2 hb3
          obtain ⟨hbw, hsz, c0, c1, c2, hf⟩ := BX3
          go_wp2_with fail
          exact bodyPost_ret (v := .tuple #[.agg #[.int .i64 5, .string (s.extract p (e)), .int .i64 0], .int .i64 ((e : Nat) : Int)]) (by simp [results, Tryz.results40, go_sem, *]) rfl ⟨by rw [HN.out]; rfl, (by repeat (first | assumption | refine Below.setCell ?_ (by exact Nat.le_refl _) _))⟩
        · have hself : Tok.sel (s.extract p (e)) = false := by simpa using hsel
          have KSEL := fun w => Lib.hid (sel_is (s.extract p (e)) false w hsz1 hself)
          have HN : Hid (Tok.selectorAt s p = none) := HX.out.trans (if_neg hsel)
          clear hsel hself HX
          go_wp2_with fail
          refine (KSEL _).out.mono ?_
          rintro e' w3 ⟨rfl, hb3⟩
          have BX3 := BX2.out.step hb3; clear BX2 hb3
          obtain ⟨hbw, hsz, c0, c1, c2, hf⟩ := BX3
          go_wp2_with fail
          exact bodyPost_ret (v := .tuple #[.agg #[.int .i64 0, .string ⟨#[]⟩, .int .i64 0], .int .i64 0]) (by simp [results, Tryz.results40, go_sem, *]) rfl ⟨by rw [HN.out]; rfl, (by repeat (first | assumption | refine Below.setCell ?_ (by exact Nat.le_refl _) _))⟩
    · have hgti : ¬ (e : Int) < (n : Int) := by omega
      have HE2 : Hid (Tok.selEnd s.data.toList p = e) := HGO.out.trans (Tok.selGo_stop _ f e (by rw [← HNR.out]; omega))
      have hsz1 : (s.extract p (e)).size ≤ 1048576 := by rw [ByteArray.size_extract]; omega
      have HX := Lib.hid (Tok.selectorAt_x s p (e) HO.out HLA.out (HE2.out))
      by_cases hsel : Tok.sel (s.extract p (e)) = true
      · have KSEL := fun w => Lib.hid (sel_is (s.extract p (e)) true w hsz1 hsel)
        have HN : Hid (Tok.selectorAt s p = some (⟨5, s.extract p (e), 0⟩, e)) := HX.out.trans (if_pos hsel)
        clear hsel HX
        go_wp2_with fail
        refine (KSEL _).out.mono ?_
        rintro e' w3 ⟨rfl, hb3⟩
        have BX3 := BX2.out.step hb3; clear BX2 hb3
        obtain ⟨hbw, hsz, c0, c1, c2, hf⟩ := BX3
        go_wp2_with fail
        exact bodyPost_ret (v := .tuple #[.agg #[.int .i64 5, .string (s.extract p (e)), .int .i64 0], .int .i64 ((e : Nat) : Int)]) (by simp [results, Tryz.results40, go_sem, *]) rfl ⟨by rw [HN.out]; rfl, (by repeat (first | assumption | refine Below.setCell ?_ (by exact Nat.le_refl _) _))⟩
      · have hself : Tok.sel (s.extract p (e)) = false := by simpa using hsel
        have KSEL := fun w => Lib.hid (sel_is (s.extract p (e)) false w hsz1 hself)
        have HN : Hid (Tok.selectorAt s p = none) := HX.out.trans (if_neg hsel)
        clear hsel hself HX
        go_wp2_with fail
        refine (KSEL _).out.mono ?_
        rintro e' w3 ⟨rfl, hb3⟩
        have BX3 := BX2.out.step hb3; clear BX2 hb3
        obtain ⟨hbw, hsz, c0, c1, c2, hf⟩ := BX3
        go_wp2_with fail
        exact bodyPost_ret (v := .tuple #[.agg #[.int .i64 0, .string ⟨#[]⟩, .int .i64 0], .int .i64 0]) (by simp [results, Tryz.results40, go_sem, *]) rfl ⟨by rw [HN.out]; rfl, (by repeat (first | assumption | refine Below.setCell ?_ (by exact Nat.le_refl _) _))⟩
theorem selector_any (s : ByteArray) (A : Int) (p : Nat) (w : World) (hA : A = p) (hp : p ≤ s.size) (hs : s.size ≤ 1048576) :
    Calls Tryz.prog 40 #[.string s, .int .i64 A] w fun e w' => e = .returned (tv (Tok.selectorAt s p)) ∧ Below w.heap.size w w' := by
  by_cases h : (Tok.starts s p Tok.binaries).toList.isEmpty = true
  · by_cases hla : Tok.letterAt s.data.toList p = true
    · have hlt : p < s.size := by
        rcases Nat.lt_or_ge p s.size with h1 | h1
        · exact h1
        · rw [letterAt_end s p (by omega)] at hla; cases hla
      by_cases hc : Tok.colon s.data.toList (Tok.run s.data.toList p) = true
      · exact selector_keys s A p w hA hs h hlt hla hc
      · exact selector_plain s A p w hA hs h hlt hla (by simpa using hc)
    · exact selector_no s A p w hA hp hs h (by simpa using hla)
  · exact selector_op s A p w hA hp hs (by simpa using h)
end Go.Proofs.YtamjfbjkdicmcaaGreatDoor.SpecSymbol
