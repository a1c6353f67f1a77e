/-
  RedblackStays.
-/
import Derived.Test.YtekoaiehhjgfiabGreatSpeaks14
import Derived.Test.YtekoaiehhjgfiabGreatAssoc
import Derived.Test.YtekoaiehhjgfiabGreatUnionP
import Derived.Test.YtekoaiehhjgfiabGreatPairsX
import Derived.Test.YtekoaiehhjgfiabGreatPairsS
import Derived.Test.YtekoaiehhjgfiabGreatSpoil
namespace Go.Proofs.YtekoaiehhjgfiabGreat
open Go.RowKit Go.Shelf

/-- A map and an error that a call told: none and an error, or a map. -/
def Told (w : World) (q : Nat) (v : Value) (E : Int) : Prop := (v = .pointer none ∧ E ≠ 0) ∨ (E = 0 ∧ ∃ t b, v = .pointer (some ⟨b, 0, none⟩) ∧ MC w q t b)

theorem OrPost.told {q : Nat} {l : List PT} {E : Int} {w : World} {e : Ending} {w' : World} (h : OrPost q l E w e w') : Below w.heap.size w w' ∧ ∃ v, e = .returned (.tuple #[v, .int .i64 E]) ∧ Told w' q v E := by
  obtain ⟨hb, ⟨hE, rfl⟩ | ⟨rfl, t, b, rfl, hm, _⟩⟩ := h
  · exact ⟨hb, _, rfl, .inl ⟨rfl, hE⟩⟩
  · exact ⟨hb, _, rfl, .inr ⟨rfl, t, b, rfl, hm⟩⟩

set_option maxRecDepth 100000 in
set_option maxHeartbeats 64000000 in
theorem stays_walk (o : Int) (n1 : Nat) (qs : List PP) (u : Value) (n : Nat) (k v : VT) (ku vu : Value) (lb : Bool) (w : World) (hu : SlQ 0 n1 w qs u) (hk : Lies n w k.items ku) (hkt : k.text.size ≤ 9223372036854775807) (hv : Lies n w v.items vu) (hvt : v.text.size ≤ 9223372036854775807) :
    Calls Tryz.prog 4 #[.int .i64 o, u, .agg #[.int .i64 k.kind, .int .i64 k.num, .string k.text, ku, .int .i64 v.kind, .int .i64 v.num, .string v.text, vu, .bool lb]] w fun e w' => e = .returned (.bool true) ∧ Below w.heap.size w w' := by
  obtain ⟨ak, ck, rfl, _⟩ := Lies.slice hk
  obtain ⟨av, cv, rfl, _⟩ := Lies.slice hv
  obtain ⟨aq, cq, rfl, _⟩ := hu.slice
  have hb0 : ∀ o, Below w.heap.size w (w.alloc o) := fun o => ((Grew.refl w).alloc o).below
  have HSpk : Hid (∀ V, Calls Tryz.prog 9 #[] V fun e w' => e = .returned (.bool true) ∧ Below V.heap.size V w') := speaks14_any
  have HO : Hid (∀ x, Calls Tryz.prog 7 #[.int .i64 o, .slice aq qs.length cq] (w.alloc x) (OfPost14 n1 o qs (w.alloc x))) := fun x => mof_14 n1 o qs _ (w.alloc x) (hu.keeps (hb0 x))
  have HAs : Hid (∀ V q t b, Below w.heap.size w V → MC V q t b → Calls Tryz.prog 19 #[.pointer (some ⟨b, 0, none⟩), .agg #[.int .i64 k.kind, .int .i64 k.num, .string k.text, .slice ak k.items.length ck], .agg #[.int .i64 v.kind, .int .i64 v.num, .string v.text, .slice av v.items.length cv]] V fun e w' => Below V.heap.size V w' ∧ ∃ x E, e = .returned (.tuple #[x, .int .i64 E]) ∧ Told w' q x E) := fun V q t b hV hm => Calls.mono (assoc_14 n b q t k v _ _ V hm (Lies.keeps hV _ _ _ hk) hkt (Lies.keeps hV _ _ _ hv) hvt) fun _ _ h => by obtain ⟨h1, x, h2, h3⟩ := h.told; exact ⟨h1, x, _, h2, h3⟩
  have HAt : Hid (∀ V q t b, Below w.heap.size w V → MC V q t b → Calls Tryz.prog 19 #[.pointer (some ⟨b, 0, none⟩), .agg #[.int .i64 v.kind, .int .i64 v.num, .string v.text, .slice av v.items.length cv], .agg #[.int .i64 k.kind, .int .i64 k.num, .string k.text, .slice ak k.items.length ck]] V fun e w' => Below V.heap.size V w' ∧ ∃ x E, e = .returned (.tuple #[x, .int .i64 E]) ∧ Told w' q x E) := fun V q t b hV hm => Calls.mono (assoc_14 n b q t v k _ _ V hm (Lies.keeps hV _ _ _ hv) hvt (Lies.keeps hV _ _ _ hk) hkt) fun _ _ h => by obtain ⟨h1, x, h2, h3⟩ := h.told; exact ⟨h1, x, _, h2, h3⟩
  have HDi : Hid (∀ V q t b, Below w.heap.size w V → MC V q t b → Calls Tryz.prog 20 #[.pointer (some ⟨b, 0, none⟩), .agg #[.int .i64 k.kind, .int .i64 k.num, .string k.text, .slice ak k.items.length ck]] V fun e w' => Below V.heap.size V w' ∧ ∃ x E, e = .returned (.tuple #[x, .int .i64 E]) ∧ Told w' q x E) := fun V q t b hV hm => Calls.mono (dissoc_14 n b q t k _ V hm (Lies.keeps hV _ _ _ hk) hkt) fun _ _ h => by obtain ⟨h1, x, h2, h3⟩ := h.told; exact ⟨h1, x, _, h2, h3⟩
  have HUn : Hid (∀ V q t t2 b b2, MC V q t b → MC V q t2 b2 → Calls Tryz.prog 10 #[.pointer (some ⟨b, 0, none⟩), .pointer (some ⟨b2, 0, none⟩)] V fun e w' => Below V.heap.size V w' ∧ ∃ x E, e = .returned (.tuple #[x, .int .i64 E]) ∧ Told w' q x E) := fun V q t t2 b b2 h1 h2 => Calls.mono (munion_14 h1 h2) fun _ _ h => by obtain ⟨h1, x, h2, h3⟩ := h.told; exact ⟨h1, x, _, h2, h3⟩
  have HB : Hid (∀ o, Below w.heap.size w (w.alloc o)) := hb0
  clear hb0 hu hk hkt hv hvt
  go_enter Tryz.func4, Tryz.ntmps4
  go_wp2_with fail
  obtain ⟨W0, hW0⟩ : ∃ W0, W0 = w.alloc (.cells #[.int .i64 k.kind, .int .i64 k.num, .string k.text, .slice ak k.items.length ck, .int .i64 v.kind, .int .i64 v.num, .string v.text, .slice av v.items.length cv, .bool lb] 45) := ⟨_, rfl⟩
  have HO2 : Hid _ := HO.out (.cells #[.int .i64 k.kind, .int .i64 k.num, .string k.text, .slice ak k.items.length ck, .int .i64 v.kind, .int .i64 v.num, .string v.text, .slice av v.items.length cv, .bool lb] 45)
  rw [← hW0] at HO2 ⊢
  have hbw0 : Below w.heap.size w W0 := by rw [hW0]; exact HB.out _
  have k0 : W0.cell? ⟨w.heap.size, 0, none⟩ = some (.int .i64 k.kind) := by rw [hW0]; simp
  have k1 : W0.cell? ⟨w.heap.size, 1, none⟩ = some (.int .i64 k.num) := by rw [hW0]; simp
  have k2 : W0.cell? ⟨w.heap.size, 2, none⟩ = some (.string k.text) := by rw [hW0]; simp
  have k3 : W0.cell? ⟨w.heap.size, 3, none⟩ = some (.slice ak k.items.length ck) := by rw [hW0]; simp
  have v0 : W0.cell? ⟨w.heap.size, 4, none⟩ = some (.int .i64 v.kind) := by rw [hW0]; simp
  have v1 : W0.cell? ⟨w.heap.size, 5, none⟩ = some (.int .i64 v.num) := by rw [hW0]; simp
  have v2 : W0.cell? ⟨w.heap.size, 6, none⟩ = some (.string v.text) := by rw [hW0]; simp
  have v3 : W0.cell? ⟨w.heap.size, 7, none⟩ = some (.slice av v.items.length cv) := by rw [hW0]; simp
  clear hW0 HO
  refine Calls.mono HO2.out ?_
  rintro e w1 ⟨hg1, ⟨hEn, rfl⟩ | ⟨_, t, b, rfl, hm, _⟩⟩
  · have HSv : Hid _ := HSpk.out w1
    have hb1 : Below w.heap.size w w1 := hbw0.trans (hg1.mono hbw0.size)
    generalize ofErr n1 o (qs.map trT) = E at *
    clear HO2 hg1 k0 k1 k2 k3 v0 v1 v2 v3
    go_wp2_with fail
    refine Calls.mono HSv.out ?_
    rintro e w2 ⟨rfl, hg2⟩
    have hb2 : Below w.heap.size w w2 := hb1.trans (hg2.mono hb1.size)
    clear hg2
    go_wp2_with fail
    go_ret
    exact ⟨rfl, hb2⟩
  · obtain ⟨q, hq⟩ : ∃ q, q = o.toNat := ⟨_, rfl⟩
    rw [← hq] at hm
    have hb1 : Below w.heap.size w w1 := hbw0.trans (hg1.mono hbw0.size)
    have k0 := cell_keeps hg1 k0; have k1 := cell_keeps hg1 k1; have k2 := cell_keeps hg1 k2; have k3 := cell_keeps hg1 k3; have v0 := cell_keeps hg1 v0; have v1 := cell_keeps hg1 v1; have v2 := cell_keeps hg1 v2; have v3 := cell_keeps hg1 v3
    have HM1 : Hid (MC w1 q t b) := hm
    have HP1 : Hid _ := mpairs_x hm
    clear hm hg1 HO2 hbw0 hq
    go_wp2_with fail
    refine Calls.mono HP1.out ?_
    rintro e w2 ⟨bkk, ksq, rfl, hks, hgk1, hgk2, hrowk, hnewk, hg2⟩
    have hb2 : Below w.heap.size w w2 := hb1.trans (hg2.mono hb1.size)
    have k0 := cell_keeps hg2 k0; have k1 := cell_keeps hg2 k1; have k2 := cell_keeps hg2 k2; have k3 := cell_keeps hg2 k3; have v0 := cell_keeps hg2 v0; have v1 := cell_keeps hg2 v1; have v2 := cell_keeps hg2 v2; have v3 := cell_keeps hg2 v3
    have HM2 : Hid (MC w2 q t b) := HM1.out.keeps hg2
    have hkl : ksq.length ≤ 65536 := by
      have h9 := congrArg List.length hks
      rw [List.length_map] at h9
      rw [h9, ← RT.size_items]
      exact HM1.out.size
    obtain ⟨LK, hLK⟩ : ∃ LK, LK = ksq.length := ⟨_, rfl⟩
    have HLK : Hid (LK = ksq.length) := hLK
    have HK2 : Hid (ksq.map trT = t.items ∧ QAt w2 bkk 0 ksq ∧ (∀ p ∈ ksq, NewQ (bkk + 1) w2 p) ∧ ksq.length ≤ 65536) := ⟨hks, hrowk, hnewk, hkl⟩
    have HH2 : Hid _ := mheight_14 HM2.out
    rw [← hLK]
    clear hks hgk1 hgk2 hrowk hnewk hg2 HM1 HP1 hkl hLK
    go_wp2_with fail
    refine Calls.mono HH2.out ?_
    rintro e wk ⟨rfl, hgk⟩
    have hbk : Below w.heap.size w wk := hb2.trans (hgk.mono hb2.size)
    have k0 := cell_keeps hgk k0; have k1 := cell_keeps hgk k1; have k2 := cell_keeps hgk k2; have k3 := cell_keeps hgk k3; have v0 := cell_keeps hgk v0; have v1 := cell_keeps hgk v1; have v2 := cell_keeps hgk v2; have v3 := cell_keeps hgk v3
    have HMk : Hid (MC wk q t b) := HM2.out.keeps hgk
    have HKs : Hid (ksq.map trT = t.items ∧ QAt wk bkk 0 ksq ∧ (∀ p ∈ ksq, NewQ (bkk + 1) wk p) ∧ ksq.length ≤ 65536) := ⟨HK2.out.1, HK2.out.2.1.keeps hgk, fun p hp => (HK2.out.2.2.1 p hp).keeps hgk, HK2.out.2.2.2⟩
    have HHt : Hid (∀ V, Below wk.heap.size wk V → Calls Tryz.prog 18 #[.pointer (some ⟨b, 0, none⟩)] V fun e w' => e = .returned (.int .i64 (t.high : Nat)) ∧ Below V.heap.size V w') := fun V hV => mheight_14 (HMk.out.keeps hV)
    have HPx : Hid (∀ V, Below wk.heap.size wk V → Calls Tryz.prog 17 #[.pointer (some ⟨b, 0, none⟩)] V (CopiesX t.items V)) := fun V hV => mpairs_x (HMk.out.keeps hV)
    have hmh : (t.high : Int) = (t.high : Int) := rfl
    clear hmh HM2 HK2 HH2 hgk hb1 hb2
    go_wp2_with fail
    refine Calls.mono (HAs.out _ _ _ _ hbk HMk.out) ?_
    rintro e w3 ⟨hg3, xa, EA, rfl, hta⟩
    have HTA : Hid (Told w3 q xa EA) := hta
    have k0 := cell_keeps hg3 k0; have k1 := cell_keeps hg3 k1; have k2 := cell_keeps hg3 k2; have k3 := cell_keeps hg3 k3; have v0 := cell_keeps hg3 v0; have v1 := cell_keeps hg3 v1; have v2 := cell_keeps hg3 v2; have v3 := cell_keeps hg3 v3
    have hbc3 : Below wk.heap.size wk w3 := hg3
    clear hta hg3
    have HDi3 : Hid _ := HDi.out w3 q t b (hbk.trans (hbc3.mono hbk.size)) (HMk.out.keeps hbc3)
    rcases HTA.out with ⟨rfl, hEA⟩ | ⟨rfl, ta, ba, rfl, hma⟩
    · go_wp2_with fail
      refine Calls.mono HDi3.out ?_
      rintro e w4 ⟨hg4, xd, ED, rfl, htd⟩
      have HTD : Hid (Told w4 q xd ED) := htd
      have k0 := cell_keeps hg4 k0; have k1 := cell_keeps hg4 k1; have k2 := cell_keeps hg4 k2; have k3 := cell_keeps hg4 k3; have v0 := cell_keeps hg4 v0; have v1 := cell_keeps hg4 v1; have v2 := cell_keeps hg4 v2; have v3 := cell_keeps hg4 v3
      have hbc : Below wk.heap.size wk w4 := hbc3.trans (hg4.mono hbc3.size)
      clear htd hg4 HDi3 HTA
      rcases HTD.out with ⟨rfl, hED⟩ | ⟨rfl, td, bd, rfl, hmd⟩
      ·
        go_wp2_with fail
        refine Calls.mono (HPx.out _ hbc) ?_
        rintro e w6 ⟨g, ts, rfl, hts, hg1, hg2, hrow, hnew, hg6⟩
        have hgt : wk.heap.size ≤ g := Nat.le_trans hbc.size hg1
        have hbk6 : Below wk.heap.size wk w6 := hbc.trans (hg6.mono hbc.size)
        obtain ⟨L, hL⟩ : ∃ L, L = ts.length := ⟨_, rfl⟩
        have HL : Hid (L = ts.length) := hL
        have HL6 : Hid (L ≤ 65536) := by
          show _ ≤ _
          have h9 := congrArg List.length hts
          rw [List.length_map, ← hL] at h9
          rw [h9, ← RT.size_items]
          exact HMk.out.size
        rw [← hL]
        have HRow : Hid (QAt w6 g 0 ts) := hrow
        have HNew : Hid (∀ p ∈ ts, NewQ (g + 1) w6 p) := hnew
        have hl6 := HL6.out
        clear hts hrow hnew hg6 hL k0 k1 k2 k3 v0 v1 v2 v3
        go_wp2_with fail
        go_loopg [87, 16] L (fun z vi vx wr => ∃ (i : Nat), vi = .int .i64 (i : Int) ∧ (∃ y, vx = y) ∧ i ≤ L ∧ z = L - i ∧ Hid (Spt (g + 1) (fun b => g + 1 ≤ b ∧ b < w6.heap.size) w6 wr))
        case atStart => exact ⟨0, rfl, ⟨_, rfl⟩, Nat.zero_le _, rfl, Spt.of_below (Below.refl _ _) (by omega)⟩
        case round =>
          obtain ⟨i, rfl, ⟨y16, rfl⟩, hiL, hz, HSp⟩ := hrel
          have Hz : Hid _ := hz
          clear hz
          by_cases hlt : i < L
          · have hli : (i : Int) < (L : Nat) := by omega
            have hiT : i < ts.length := by have := HL.out; omega
            have h8 := HRow.out.at i hiT
            have nx := HNew.out ts[i] (List.getElem_mem hiT)
            generalize ts[i] = x at *
            obtain ⟨⟨t1, u1⟩, ⟨t2, u2⟩⟩ := x
            obtain ⟨a1, c1, hu1, _⟩ := LiesB.slice nx.1.1
            obtain ⟨a2, c2, hu2, _⟩ := LiesB.slice nx.2.1
            simp only at hu1 hu2
            subst hu1 hu2
            simp only [Nat.zero_add] at h8
            have hcl : ∀ (V : World), Below (g + 1) w6 V → ∀ (r : Nat) (val : Value), w6.cell? ⟨g, r, none⟩ = some val → V.cell? ⟨g, r, none⟩ = some val := fun V hV r val h => (hV.cell (p := ⟨g, r, none⟩) (by simp)).trans h
            have HCl : Hid _ := hcl
            have H8 : Hid (Eight w6 g (i * 8) ((t1, .slice a1 t1.items.length c1), (t2, .slice a2 t2.items.length c2))) := h8
            have HS1 : Hid (Sp (fun b => g + 1 ≤ b ∧ b < w6.heap.size) 16 w6 (.slice a1 t1.items.length c1)) := LiesB.sp (fun b h1 h2 => ⟨h1, h2⟩) _ _ _ nx.1.1
            have HS2 : Hid (Sp (fun b => g + 1 ≤ b ∧ b < w6.heap.size) 16 w6 (.slice a2 t2.items.length c2)) := LiesB.sp (fun b h1 h2 => ⟨h1, h2⟩) _ _ _ nx.2.1
            have HSk : Hid (∀ V, Spt (g + 1) (fun b => g + 1 ≤ b ∧ b < w6.heap.size) w6 V → Calls Tryz.prog 21 #[.agg #[.int .i64 t1.kind, .int .i64 t1.num, .string t1.text, .slice a1 t1.items.length c1]] V fun e w' => e = .returned (.tuple #[]) ∧ Spt (g + 1) (fun b => g + 1 ≤ b ∧ b < w6.heap.size) V w') := fun V hV => spoil_any (g + 1) w6.heap.size _ (fun b h => h) (by omega) 16 _ _ _ _ V hV.below.size (hV.keeps _ _ HS1.out)
            have HSv : Hid (∀ V, Spt (g + 1) (fun b => g + 1 ≤ b ∧ b < w6.heap.size) w6 V → Calls Tryz.prog 21 #[.agg #[.int .i64 t2.kind, .int .i64 t2.num, .string t2.text, .slice a2 t2.items.length c2]] V fun e w' => e = .returned (.tuple #[]) ∧ Spt (g + 1) (fun b => g + 1 ≤ b ∧ b < w6.heap.size) V w') := fun V hV => spoil_any (g + 1) w6.heap.size _ (fun b h => h) (by omega) 16 _ _ _ _ V hV.below.size (hV.keeps _ _ HS2.out)
            clear nx h8 hcl hiT
            have p0 := HCl.out wr HSp.out.below _ _ H8.out.1
            have p1 := HCl.out wr HSp.out.below _ _ H8.out.2.1
            have p2 := HCl.out wr HSp.out.below _ _ H8.out.2.2.1
            have p3 := HCl.out wr HSp.out.below _ _ H8.out.2.2.2.1
            simp only at p0 p1 p2 p3
            go_wp2_with fail
            refine Calls.mono (HSk.out _ HSp.out) ?_
            rintro e w7 ⟨rfl, hs7⟩
            have HSp7 : Hid (Spt (g + 1) (fun b => g + 1 ≤ b ∧ b < w6.heap.size) w6 w7) := HSp.out.trans hs7
            clear p0 p1 p2 p3 hs7
            have p4 := HCl.out w7 HSp7.out.below _ _ H8.out.2.2.2.2.1
            have p5 := HCl.out w7 HSp7.out.below _ _ H8.out.2.2.2.2.2.1
            have p6 := HCl.out w7 HSp7.out.below _ _ H8.out.2.2.2.2.2.2.1
            have p7 := HCl.out w7 HSp7.out.below _ _ H8.out.2.2.2.2.2.2.2
            simp only at p4 p5 p6 p7
            go_wp2_with fail
            refine Calls.mono (HSv.out _ HSp7.out) ?_
            rintro e w8 ⟨rfl, hs8⟩
            have HSp8 : Hid (Spt (g + 1) (fun b => g + 1 ≤ b ∧ b < w6.heap.size) w6 w8) := HSp7.out.trans hs8
            clear p4 p5 p6 p7 hs8 HSk HSv HS1 HS2 HCl H8
            go_wp2_with fail
            go_roundg (L - (i + 1))
            case measure => have := Hz.out; omega
            case rel => exact ⟨i + 1, by go_num, ⟨_, rfl⟩, by omega, rfl, HSp8⟩
          · have hli : ¬ (i : Int) < (L : Nat) := by omega
            have hbz : Below wk.heap.size wk wr := hbk6.trans (HSp.out.below.mono (by omega))
            have HPz : Hid _ := HPx.out wr hbz
            go_wp2_with fail
            refine Calls.mono HPz.out ?_
            rintro e w9 ⟨g9, rs, rfl, hrs, h91, h92, hrow9, hnew9, hg9⟩
            have hb9 : Below wk.heap.size wk w9 := hbz.trans (hg9.mono hbz.size)
            have hrl : rs.length ≤ 65536 := by
              have h9 := congrArg List.length hrs
              rw [List.length_map] at h9
              rw [h9, ← RT.size_items]
              exact HMk.out.size
            have HSame : Hid (Calls Tryz.prog 22 #[.slice (some ⟨g9, 0, none⟩) rs.length rs.length, .slice (some ⟨bkk, 0, none⟩) LK LK] w9 fun e w' => e = .returned (.bool true) ∧ Below w9.heap.size w9 w') := by
              have e8 : LK = ksq.length := HLK.out
              rw [e8]
              refine pairs_same 16 rs ksq (by rw [hrs]; exact HKs.out.1.symm) _ _ w9 ⟨_, _, rfl, Nat.le_refl _, by omega, fun _ => ⟨g9, 0, rfl, Nat.zero_le _, hrow9⟩, fun p hp => (hnew9 p hp).good⟩ ?_ hrl
              exact ⟨_, _, rfl, Nat.le_refl _, by have := HKs.out.2.2.2; omega, fun _ => ⟨bkk, 0, rfl, Nat.zero_le _, HKs.out.2.1.keeps hb9⟩, fun p hp => ((HKs.out.2.2.1 p hp).keeps hb9).good⟩
            obtain ⟨LR, hLR⟩ : ∃ LR, LR = rs.length := ⟨_, rfl⟩
            rw [← hLR] at HSame ⊢
            clear hrs h91 h92 hrow9 hnew9 hg9 hrl hLR HPz
            go_wp2_with fail
            refine Calls.mono HSame.out ?_
            rintro e w10 ⟨rfl, hg10⟩
            have hb10 : Below wk.heap.size wk w10 := hb9.trans (hg10.mono hb9.size)
            have HH10 : Hid _ := HHt.out w10 hb10
            clear hg10 HSame
            go_wp2_with fail
            refine Calls.mono HH10.out ?_
            rintro e w11 ⟨rfl, hg11⟩
            have hb11 : Below wk.heap.size wk w11 := hb10.trans (hg11.mono hb10.size)
            have HSs : Hid _ := HSpk.out w11
            clear hg11 HH10
            go_wp2_with fail
            refine Calls.mono HSs.out ?_
            rintro e w12 ⟨rfl, hg12⟩
            have HE : Hid (Below w.heap.size w w12) := (hbk.trans (hb11.mono hbk.size)).trans (hg12.mono (hbk.trans (hb11.mono hbk.size)).size)
            clear hg12 HSs
            go_wp2_with fail
            go_ret
            exact ⟨rfl, HE.out⟩
      · have HMd : Hid (MC w4 q td bd) := hmd
        have HAd : Hid _ := HAs.out w4 q td bd (hbk.trans (hbc.mono hbk.size)) HMd.out
        clear hmd
        go_wp2_with fail
        refine Calls.mono HAd.out ?_
        rintro e w57 ⟨hg5, x57, E57, rfl, _⟩
        have k0 := cell_keeps hg5 k0; have k1 := cell_keeps hg5 k1; have k2 := cell_keeps hg5 k2; have k3 := cell_keeps hg5 k3; have v0 := cell_keeps hg5 v0; have v1 := cell_keeps hg5 v1; have v2 := cell_keeps hg5 v2; have v3 := cell_keeps hg5 v3
        replace hbc := hbc.trans (hg5.mono hbc.size)
        have HUd : Hid _ := HUn.out w57 q td t bd b (HMd.out.keeps hg5) (HMk.out.keeps hbc)
        clear hg5 HAd HMd
        go_wp2_with fail
        refine Calls.mono HUd.out ?_
        rintro e w58 ⟨hg5, x58, E58, rfl, _⟩
        have k0 := cell_keeps hg5 k0; have k1 := cell_keeps hg5 k1; have k2 := cell_keeps hg5 k2; have k3 := cell_keeps hg5 k3; have v0 := cell_keeps hg5 v0; have v1 := cell_keeps hg5 v1; have v2 := cell_keeps hg5 v2; have v3 := cell_keeps hg5 v3
        replace hbc := hbc.trans (hg5.mono hbc.size)
        clear hg5 HUd
        go_wp2_with fail
        refine Calls.mono (HPx.out _ hbc) ?_
        rintro e w6 ⟨g, ts, rfl, hts, hg1, hg2, hrow, hnew, hg6⟩
        have hgt : wk.heap.size ≤ g := Nat.le_trans hbc.size hg1
        have hbk6 : Below wk.heap.size wk w6 := hbc.trans (hg6.mono hbc.size)
        obtain ⟨L, hL⟩ : ∃ L, L = ts.length := ⟨_, rfl⟩
        have HL : Hid (L = ts.length) := hL
        have HL6 : Hid (L ≤ 65536) := by
          show _ ≤ _
          have h9 := congrArg List.length hts
          rw [List.length_map, ← hL] at h9
          rw [h9, ← RT.size_items]
          exact HMk.out.size
        rw [← hL]
        have HRow : Hid (QAt w6 g 0 ts) := hrow
        have HNew : Hid (∀ p ∈ ts, NewQ (g + 1) w6 p) := hnew
        have hl6 := HL6.out
        clear hts hrow hnew hg6 hL k0 k1 k2 k3 v0 v1 v2 v3
        go_wp2_with fail
        go_loopg [87, 16] L (fun z vi vx wr => ∃ (i : Nat), vi = .int .i64 (i : Int) ∧ (∃ y, vx = y) ∧ i ≤ L ∧ z = L - i ∧ Hid (Spt (g + 1) (fun b => g + 1 ≤ b ∧ b < w6.heap.size) w6 wr))
        case atStart => exact ⟨0, rfl, ⟨_, rfl⟩, Nat.zero_le _, rfl, Spt.of_below (Below.refl _ _) (by omega)⟩
        case round =>
          obtain ⟨i, rfl, ⟨y16, rfl⟩, hiL, hz, HSp⟩ := hrel
          have Hz : Hid _ := hz
          clear hz
          by_cases hlt : i < L
          · have hli : (i : Int) < (L : Nat) := by omega
            have hiT : i < ts.length := by have := HL.out; omega
            have h8 := HRow.out.at i hiT
            have nx := HNew.out ts[i] (List.getElem_mem hiT)
            generalize ts[i] = x at *
            obtain ⟨⟨t1, u1⟩, ⟨t2, u2⟩⟩ := x
            obtain ⟨a1, c1, hu1, _⟩ := LiesB.slice nx.1.1
            obtain ⟨a2, c2, hu2, _⟩ := LiesB.slice nx.2.1
            simp only at hu1 hu2
            subst hu1 hu2
            simp only [Nat.zero_add] at h8
            have hcl : ∀ (V : World), Below (g + 1) w6 V → ∀ (r : Nat) (val : Value), w6.cell? ⟨g, r, none⟩ = some val → V.cell? ⟨g, r, none⟩ = some val := fun V hV r val h => (hV.cell (p := ⟨g, r, none⟩) (by simp)).trans h
            have HCl : Hid _ := hcl
            have H8 : Hid (Eight w6 g (i * 8) ((t1, .slice a1 t1.items.length c1), (t2, .slice a2 t2.items.length c2))) := h8
            have HS1 : Hid (Sp (fun b => g + 1 ≤ b ∧ b < w6.heap.size) 16 w6 (.slice a1 t1.items.length c1)) := LiesB.sp (fun b h1 h2 => ⟨h1, h2⟩) _ _ _ nx.1.1
            have HS2 : Hid (Sp (fun b => g + 1 ≤ b ∧ b < w6.heap.size) 16 w6 (.slice a2 t2.items.length c2)) := LiesB.sp (fun b h1 h2 => ⟨h1, h2⟩) _ _ _ nx.2.1
            have HSk : Hid (∀ V, Spt (g + 1) (fun b => g + 1 ≤ b ∧ b < w6.heap.size) w6 V → Calls Tryz.prog 21 #[.agg #[.int .i64 t1.kind, .int .i64 t1.num, .string t1.text, .slice a1 t1.items.length c1]] V fun e w' => e = .returned (.tuple #[]) ∧ Spt (g + 1) (fun b => g + 1 ≤ b ∧ b < w6.heap.size) V w') := fun V hV => spoil_any (g + 1) w6.heap.size _ (fun b h => h) (by omega) 16 _ _ _ _ V hV.below.size (hV.keeps _ _ HS1.out)
            have HSv : Hid (∀ V, Spt (g + 1) (fun b => g + 1 ≤ b ∧ b < w6.heap.size) w6 V → Calls Tryz.prog 21 #[.agg #[.int .i64 t2.kind, .int .i64 t2.num, .string t2.text, .slice a2 t2.items.length c2]] V fun e w' => e = .returned (.tuple #[]) ∧ Spt (g + 1) (fun b => g + 1 ≤ b ∧ b < w6.heap.size) V w') := fun V hV => spoil_any (g + 1) w6.heap.size _ (fun b h => h) (by omega) 16 _ _ _ _ V hV.below.size (hV.keeps _ _ HS2.out)
            clear nx h8 hcl hiT
            have p0 := HCl.out wr HSp.out.below _ _ H8.out.1
            have p1 := HCl.out wr HSp.out.below _ _ H8.out.2.1
            have p2 := HCl.out wr HSp.out.below _ _ H8.out.2.2.1
            have p3 := HCl.out wr HSp.out.below _ _ H8.out.2.2.2.1
            simp only at p0 p1 p2 p3
            go_wp2_with fail
            refine Calls.mono (HSk.out _ HSp.out) ?_
            rintro e w7 ⟨rfl, hs7⟩
            have HSp7 : Hid (Spt (g + 1) (fun b => g + 1 ≤ b ∧ b < w6.heap.size) w6 w7) := HSp.out.trans hs7
            clear p0 p1 p2 p3 hs7
            have p4 := HCl.out w7 HSp7.out.below _ _ H8.out.2.2.2.2.1
            have p5 := HCl.out w7 HSp7.out.below _ _ H8.out.2.2.2.2.2.1
            have p6 := HCl.out w7 HSp7.out.below _ _ H8.out.2.2.2.2.2.2.1
            have p7 := HCl.out w7 HSp7.out.below _ _ H8.out.2.2.2.2.2.2.2
            simp only at p4 p5 p6 p7
            go_wp2_with fail
            refine Calls.mono (HSv.out _ HSp7.out) ?_
            rintro e w8 ⟨rfl, hs8⟩
            have HSp8 : Hid (Spt (g + 1) (fun b => g + 1 ≤ b ∧ b < w6.heap.size) w6 w8) := HSp7.out.trans hs8
            clear p4 p5 p6 p7 hs8 HSk HSv HS1 HS2 HCl H8
            go_wp2_with fail
            go_roundg (L - (i + 1))
            case measure => have := Hz.out; omega
            case rel => exact ⟨i + 1, by go_num, ⟨_, rfl⟩, by omega, rfl, HSp8⟩
          · have hli : ¬ (i : Int) < (L : Nat) := by omega
            have hbz : Below wk.heap.size wk wr := hbk6.trans (HSp.out.below.mono (by omega))
            have HPz : Hid _ := HPx.out wr hbz
            go_wp2_with fail
            refine Calls.mono HPz.out ?_
            rintro e w9 ⟨g9, rs, rfl, hrs, h91, h92, hrow9, hnew9, hg9⟩
            have hb9 : Below wk.heap.size wk w9 := hbz.trans (hg9.mono hbz.size)
            have hrl : rs.length ≤ 65536 := by
              have h9 := congrArg List.length hrs
              rw [List.length_map] at h9
              rw [h9, ← RT.size_items]
              exact HMk.out.size
            have HSame : Hid (Calls Tryz.prog 22 #[.slice (some ⟨g9, 0, none⟩) rs.length rs.length, .slice (some ⟨bkk, 0, none⟩) LK LK] w9 fun e w' => e = .returned (.bool true) ∧ Below w9.heap.size w9 w') := by
              have e8 : LK = ksq.length := HLK.out
              rw [e8]
              refine pairs_same 16 rs ksq (by rw [hrs]; exact HKs.out.1.symm) _ _ w9 ⟨_, _, rfl, Nat.le_refl _, by omega, fun _ => ⟨g9, 0, rfl, Nat.zero_le _, hrow9⟩, fun p hp => (hnew9 p hp).good⟩ ?_ hrl
              exact ⟨_, _, rfl, Nat.le_refl _, by have := HKs.out.2.2.2; omega, fun _ => ⟨bkk, 0, rfl, Nat.zero_le _, HKs.out.2.1.keeps hb9⟩, fun p hp => ((HKs.out.2.2.1 p hp).keeps hb9).good⟩
            obtain ⟨LR, hLR⟩ : ∃ LR, LR = rs.length := ⟨_, rfl⟩
            rw [← hLR] at HSame ⊢
            clear hrs h91 h92 hrow9 hnew9 hg9 hrl hLR HPz
            go_wp2_with fail
            refine Calls.mono HSame.out ?_
            rintro e w10 ⟨rfl, hg10⟩
            have hb10 : Below wk.heap.size wk w10 := hb9.trans (hg10.mono hb9.size)
            have HH10 : Hid _ := HHt.out w10 hb10
            clear hg10 HSame
            go_wp2_with fail
            refine Calls.mono HH10.out ?_
            rintro e w11 ⟨rfl, hg11⟩
            have hb11 : Below wk.heap.size wk w11 := hb10.trans (hg11.mono hb10.size)
            have HSs : Hid _ := HSpk.out w11
            clear hg11 HH10
            go_wp2_with fail
            refine Calls.mono HSs.out ?_
            rintro e w12 ⟨rfl, hg12⟩
            have HE : Hid (Below w.heap.size w w12) := (hbk.trans (hb11.mono hbk.size)).trans (hg12.mono (hbk.trans (hb11.mono hbk.size)).size)
            clear hg12 HSs
            go_wp2_with fail
            go_ret
            exact ⟨rfl, HE.out⟩
    · go_wp2_with fail
      refine Calls.mono HDi3.out ?_
      rintro e w4 ⟨hg4, xd, ED, rfl, htd⟩
      have HTD : Hid (Told w4 q xd ED) := htd
      have k0 := cell_keeps hg4 k0; have k1 := cell_keeps hg4 k1; have k2 := cell_keeps hg4 k2; have k3 := cell_keeps hg4 k3; have v0 := cell_keeps hg4 v0; have v1 := cell_keeps hg4 v1; have v2 := cell_keeps hg4 v2; have v3 := cell_keeps hg4 v3
      have hbc : Below wk.heap.size wk w4 := hbc3.trans (hg4.mono hbc3.size)
      have HMa : Hid (MC w4 q ta ba) := hma.keeps hg4
      have HDa : Hid _ := HDi.out w4 q ta ba (hbk.trans (hbc.mono hbk.size)) HMa.out
      clear hma htd hg4 HDi3 HTA
      rcases HTD.out with ⟨rfl, hED⟩ | ⟨rfl, td, bd, rfl, hmd⟩
      · go_wp2_with fail
        refine Calls.mono HDa.out ?_
        rintro e w5 ⟨hg5, x5, E5, rfl, _⟩
        have k0 := cell_keeps hg5 k0; have k1 := cell_keeps hg5 k1; have k2 := cell_keeps hg5 k2; have k3 := cell_keeps hg5 k3; have v0 := cell_keeps hg5 v0; have v1 := cell_keeps hg5 v1; have v2 := cell_keeps hg5 v2; have v3 := cell_keeps hg5 v3
        replace hbc := hbc.trans (hg5.mono hbc.size)
        have HAa : Hid _ := HAt.out w5 q ta ba (hbk.trans (hbc.mono hbk.size)) (HMa.out.keeps hg5)
        clear hg5 HDa
        go_wp2_with fail
        refine Calls.mono HAa.out ?_
        rintro e w55 ⟨hg5, x55, E55, rfl, _⟩
        have k0 := cell_keeps hg5 k0; have k1 := cell_keeps hg5 k1; have k2 := cell_keeps hg5 k2; have k3 := cell_keeps hg5 k3; have v0 := cell_keeps hg5 v0; have v1 := cell_keeps hg5 v1; have v2 := cell_keeps hg5 v2; have v3 := cell_keeps hg5 v3
        replace hbc := hbc.trans (hg5.mono hbc.size)
        clear hg5 HAa HMa
        go_wp2_with fail
        refine Calls.mono (HPx.out _ hbc) ?_
        rintro e w6 ⟨g, ts, rfl, hts, hg1, hg2, hrow, hnew, hg6⟩
        have hgt : wk.heap.size ≤ g := Nat.le_trans hbc.size hg1
        have hbk6 : Below wk.heap.size wk w6 := hbc.trans (hg6.mono hbc.size)
        obtain ⟨L, hL⟩ : ∃ L, L = ts.length := ⟨_, rfl⟩
        have HL : Hid (L = ts.length) := hL
        have HL6 : Hid (L ≤ 65536) := by
          show _ ≤ _
          have h9 := congrArg List.length hts
          rw [List.length_map, ← hL] at h9
          rw [h9, ← RT.size_items]
          exact HMk.out.size
        rw [← hL]
        have HRow : Hid (QAt w6 g 0 ts) := hrow
        have HNew : Hid (∀ p ∈ ts, NewQ (g + 1) w6 p) := hnew
        have hl6 := HL6.out
        clear hts hrow hnew hg6 hL k0 k1 k2 k3 v0 v1 v2 v3
        go_wp2_with fail
        go_loopg [87, 16] L (fun z vi vx wr => ∃ (i : Nat), vi = .int .i64 (i : Int) ∧ (∃ y, vx = y) ∧ i ≤ L ∧ z = L - i ∧ Hid (Spt (g + 1) (fun b => g + 1 ≤ b ∧ b < w6.heap.size) w6 wr))
        case atStart => exact ⟨0, rfl, ⟨_, rfl⟩, Nat.zero_le _, rfl, Spt.of_below (Below.refl _ _) (by omega)⟩
        case round =>
          obtain ⟨i, rfl, ⟨y16, rfl⟩, hiL, hz, HSp⟩ := hrel
          have Hz : Hid _ := hz
          clear hz
          by_cases hlt : i < L
          · have hli : (i : Int) < (L : Nat) := by omega
            have hiT : i < ts.length := by have := HL.out; omega
            have h8 := HRow.out.at i hiT
            have nx := HNew.out ts[i] (List.getElem_mem hiT)
            generalize ts[i] = x at *
            obtain ⟨⟨t1, u1⟩, ⟨t2, u2⟩⟩ := x
            obtain ⟨a1, c1, hu1, _⟩ := LiesB.slice nx.1.1
            obtain ⟨a2, c2, hu2, _⟩ := LiesB.slice nx.2.1
            simp only at hu1 hu2
            subst hu1 hu2
            simp only [Nat.zero_add] at h8
            have hcl : ∀ (V : World), Below (g + 1) w6 V → ∀ (r : Nat) (val : Value), w6.cell? ⟨g, r, none⟩ = some val → V.cell? ⟨g, r, none⟩ = some val := fun V hV r val h => (hV.cell (p := ⟨g, r, none⟩) (by simp)).trans h
            have HCl : Hid _ := hcl
            have H8 : Hid (Eight w6 g (i * 8) ((t1, .slice a1 t1.items.length c1), (t2, .slice a2 t2.items.length c2))) := h8
            have HS1 : Hid (Sp (fun b => g + 1 ≤ b ∧ b < w6.heap.size) 16 w6 (.slice a1 t1.items.length c1)) := LiesB.sp (fun b h1 h2 => ⟨h1, h2⟩) _ _ _ nx.1.1
            have HS2 : Hid (Sp (fun b => g + 1 ≤ b ∧ b < w6.heap.size) 16 w6 (.slice a2 t2.items.length c2)) := LiesB.sp (fun b h1 h2 => ⟨h1, h2⟩) _ _ _ nx.2.1
            have HSk : Hid (∀ V, Spt (g + 1) (fun b => g + 1 ≤ b ∧ b < w6.heap.size) w6 V → Calls Tryz.prog 21 #[.agg #[.int .i64 t1.kind, .int .i64 t1.num, .string t1.text, .slice a1 t1.items.length c1]] V fun e w' => e = .returned (.tuple #[]) ∧ Spt (g + 1) (fun b => g + 1 ≤ b ∧ b < w6.heap.size) V w') := fun V hV => spoil_any (g + 1) w6.heap.size _ (fun b h => h) (by omega) 16 _ _ _ _ V hV.below.size (hV.keeps _ _ HS1.out)
            have HSv : Hid (∀ V, Spt (g + 1) (fun b => g + 1 ≤ b ∧ b < w6.heap.size) w6 V → Calls Tryz.prog 21 #[.agg #[.int .i64 t2.kind, .int .i64 t2.num, .string t2.text, .slice a2 t2.items.length c2]] V fun e w' => e = .returned (.tuple #[]) ∧ Spt (g + 1) (fun b => g + 1 ≤ b ∧ b < w6.heap.size) V w') := fun V hV => spoil_any (g + 1) w6.heap.size _ (fun b h => h) (by omega) 16 _ _ _ _ V hV.below.size (hV.keeps _ _ HS2.out)
            clear nx h8 hcl hiT
            have p0 := HCl.out wr HSp.out.below _ _ H8.out.1
            have p1 := HCl.out wr HSp.out.below _ _ H8.out.2.1
            have p2 := HCl.out wr HSp.out.below _ _ H8.out.2.2.1
            have p3 := HCl.out wr HSp.out.below _ _ H8.out.2.2.2.1
            simp only at p0 p1 p2 p3
            go_wp2_with fail
            refine Calls.mono (HSk.out _ HSp.out) ?_
            rintro e w7 ⟨rfl, hs7⟩
            have HSp7 : Hid (Spt (g + 1) (fun b => g + 1 ≤ b ∧ b < w6.heap.size) w6 w7) := HSp.out.trans hs7
            clear p0 p1 p2 p3 hs7
            have p4 := HCl.out w7 HSp7.out.below _ _ H8.out.2.2.2.2.1
            have p5 := HCl.out w7 HSp7.out.below _ _ H8.out.2.2.2.2.2.1
            have p6 := HCl.out w7 HSp7.out.below _ _ H8.out.2.2.2.2.2.2.1
            have p7 := HCl.out w7 HSp7.out.below _ _ H8.out.2.2.2.2.2.2.2
            simp only at p4 p5 p6 p7
            go_wp2_with fail
            refine Calls.mono (HSv.out _ HSp7.out) ?_
            rintro e w8 ⟨rfl, hs8⟩
            have HSp8 : Hid (Spt (g + 1) (fun b => g + 1 ≤ b ∧ b < w6.heap.size) w6 w8) := HSp7.out.trans hs8
            clear p4 p5 p6 p7 hs8 HSk HSv HS1 HS2 HCl H8
            go_wp2_with fail
            go_roundg (L - (i + 1))
            case measure => have := Hz.out; omega
            case rel => exact ⟨i + 1, by go_num, ⟨_, rfl⟩, by omega, rfl, HSp8⟩
          · have hli : ¬ (i : Int) < (L : Nat) := by omega
            have hbz : Below wk.heap.size wk wr := hbk6.trans (HSp.out.below.mono (by omega))
            have HPz : Hid _ := HPx.out wr hbz
            go_wp2_with fail
            refine Calls.mono HPz.out ?_
            rintro e w9 ⟨g9, rs, rfl, hrs, h91, h92, hrow9, hnew9, hg9⟩
            have hb9 : Below wk.heap.size wk w9 := hbz.trans (hg9.mono hbz.size)
            have hrl : rs.length ≤ 65536 := by
              have h9 := congrArg List.length hrs
              rw [List.length_map] at h9
              rw [h9, ← RT.size_items]
              exact HMk.out.size
            have HSame : Hid (Calls Tryz.prog 22 #[.slice (some ⟨g9, 0, none⟩) rs.length rs.length, .slice (some ⟨bkk, 0, none⟩) LK LK] w9 fun e w' => e = .returned (.bool true) ∧ Below w9.heap.size w9 w') := by
              have e8 : LK = ksq.length := HLK.out
              rw [e8]
              refine pairs_same 16 rs ksq (by rw [hrs]; exact HKs.out.1.symm) _ _ w9 ⟨_, _, rfl, Nat.le_refl _, by omega, fun _ => ⟨g9, 0, rfl, Nat.zero_le _, hrow9⟩, fun p hp => (hnew9 p hp).good⟩ ?_ hrl
              exact ⟨_, _, rfl, Nat.le_refl _, by have := HKs.out.2.2.2; omega, fun _ => ⟨bkk, 0, rfl, Nat.zero_le _, HKs.out.2.1.keeps hb9⟩, fun p hp => ((HKs.out.2.2.1 p hp).keeps hb9).good⟩
            obtain ⟨LR, hLR⟩ : ∃ LR, LR = rs.length := ⟨_, rfl⟩
            rw [← hLR] at HSame ⊢
            clear hrs h91 h92 hrow9 hnew9 hg9 hrl hLR HPz
            go_wp2_with fail
            refine Calls.mono HSame.out ?_
            rintro e w10 ⟨rfl, hg10⟩
            have hb10 : Below wk.heap.size wk w10 := hb9.trans (hg10.mono hb9.size)
            have HH10 : Hid _ := HHt.out w10 hb10
            clear hg10 HSame
            go_wp2_with fail
            refine Calls.mono HH10.out ?_
            rintro e w11 ⟨rfl, hg11⟩
            have hb11 : Below wk.heap.size wk w11 := hb10.trans (hg11.mono hb10.size)
            have HSs : Hid _ := HSpk.out w11
            clear hg11 HH10
            go_wp2_with fail
            refine Calls.mono HSs.out ?_
            rintro e w12 ⟨rfl, hg12⟩
            have HE : Hid (Below w.heap.size w w12) := (hbk.trans (hb11.mono hbk.size)).trans (hg12.mono (hbk.trans (hb11.mono hbk.size)).size)
            clear hg12 HSs
            go_wp2_with fail
            go_ret
            exact ⟨rfl, HE.out⟩
      · have HMd : Hid (MC w4 q td bd) := hmd
        clear hmd
        go_wp2_with fail
        refine Calls.mono HDa.out ?_
        rintro e w5 ⟨hg5, x5, E5, rfl, _⟩
        have k0 := cell_keeps hg5 k0; have k1 := cell_keeps hg5 k1; have k2 := cell_keeps hg5 k2; have k3 := cell_keeps hg5 k3; have v0 := cell_keeps hg5 v0; have v1 := cell_keeps hg5 v1; have v2 := cell_keeps hg5 v2; have v3 := cell_keeps hg5 v3
        replace hbc := hbc.trans (hg5.mono hbc.size)
        have HAa : Hid _ := HAt.out w5 q ta ba (hbk.trans (hbc.mono hbk.size)) (HMa.out.keeps hg5)
        have HMd : Hid (MC w5 q td bd) := HMd.out.keeps hg5
        clear hg5 HDa
        go_wp2_with fail
        refine Calls.mono HAa.out ?_
        rintro e w55 ⟨hg5, x55, E55, rfl, _⟩
        have k0 := cell_keeps hg5 k0; have k1 := cell_keeps hg5 k1; have k2 := cell_keeps hg5 k2; have k3 := cell_keeps hg5 k3; have v0 := cell_keeps hg5 v0; have v1 := cell_keeps hg5 v1; have v2 := cell_keeps hg5 v2; have v3 := cell_keeps hg5 v3
        replace hbc := hbc.trans (hg5.mono hbc.size)
        have HMd : Hid (MC w55 q td bd) := HMd.out.keeps hg5
        have HAd : Hid _ := HAs.out w55 q td bd (hbk.trans (hbc.mono hbk.size)) HMd.out
        clear hg5 HAa HMa
        go_wp2_with fail
        refine Calls.mono HAd.out ?_
        rintro e w57 ⟨hg5, x57, E57, rfl, _⟩
        have k0 := cell_keeps hg5 k0; have k1 := cell_keeps hg5 k1; have k2 := cell_keeps hg5 k2; have k3 := cell_keeps hg5 k3; have v0 := cell_keeps hg5 v0; have v1 := cell_keeps hg5 v1; have v2 := cell_keeps hg5 v2; have v3 := cell_keeps hg5 v3
        replace hbc := hbc.trans (hg5.mono hbc.size)
        have HUd : Hid _ := HUn.out w57 q td t bd b (HMd.out.keeps hg5) (HMk.out.keeps hbc)
        clear hg5 HAd HMd
        go_wp2_with fail
        refine Calls.mono HUd.out ?_
        rintro e w58 ⟨hg5, x58, E58, rfl, _⟩
        have k0 := cell_keeps hg5 k0; have k1 := cell_keeps hg5 k1; have k2 := cell_keeps hg5 k2; have k3 := cell_keeps hg5 k3; have v0 := cell_keeps hg5 v0; have v1 := cell_keeps hg5 v1; have v2 := cell_keeps hg5 v2; have v3 := cell_keeps hg5 v3
        replace hbc := hbc.trans (hg5.mono hbc.size)
        clear hg5 HUd
        go_wp2_with fail
        refine Calls.mono (HPx.out _ hbc) ?_
        rintro e w6 ⟨g, ts, rfl, hts, hg1, hg2, hrow, hnew, hg6⟩
        have hgt : wk.heap.size ≤ g := Nat.le_trans hbc.size hg1
        have hbk6 : Below wk.heap.size wk w6 := hbc.trans (hg6.mono hbc.size)
        obtain ⟨L, hL⟩ : ∃ L, L = ts.length := ⟨_, rfl⟩
        have HL : Hid (L = ts.length) := hL
        have HL6 : Hid (L ≤ 65536) := by
          show _ ≤ _
          have h9 := congrArg List.length hts
          rw [List.length_map, ← hL] at h9
          rw [h9, ← RT.size_items]
          exact HMk.out.size
        rw [← hL]
        have HRow : Hid (QAt w6 g 0 ts) := hrow
        have HNew : Hid (∀ p ∈ ts, NewQ (g + 1) w6 p) := hnew
        have hl6 := HL6.out
        clear hts hrow hnew hg6 hL k0 k1 k2 k3 v0 v1 v2 v3
        go_wp2_with fail
        go_loopg [87, 16] L (fun z vi vx wr => ∃ (i : Nat), vi = .int .i64 (i : Int) ∧ (∃ y, vx = y) ∧ i ≤ L ∧ z = L - i ∧ Hid (Spt (g + 1) (fun b => g + 1 ≤ b ∧ b < w6.heap.size) w6 wr))
        case atStart => exact ⟨0, rfl, ⟨_, rfl⟩, Nat.zero_le _, rfl, Spt.of_below (Below.refl _ _) (by omega)⟩
        case round =>
          obtain ⟨i, rfl, ⟨y16, rfl⟩, hiL, hz, HSp⟩ := hrel
          have Hz : Hid _ := hz
          clear hz
          by_cases hlt : i < L
          · have hli : (i : Int) < (L : Nat) := by omega
            have hiT : i < ts.length := by have := HL.out; omega
            have h8 := HRow.out.at i hiT
            have nx := HNew.out ts[i] (List.getElem_mem hiT)
            generalize ts[i] = x at *
            obtain ⟨⟨t1, u1⟩, ⟨t2, u2⟩⟩ := x
            obtain ⟨a1, c1, hu1, _⟩ := LiesB.slice nx.1.1
            obtain ⟨a2, c2, hu2, _⟩ := LiesB.slice nx.2.1
            simp only at hu1 hu2
            subst hu1 hu2
            simp only [Nat.zero_add] at h8
            have hcl : ∀ (V : World), Below (g + 1) w6 V → ∀ (r : Nat) (val : Value), w6.cell? ⟨g, r, none⟩ = some val → V.cell? ⟨g, r, none⟩ = some val := fun V hV r val h => (hV.cell (p := ⟨g, r, none⟩) (by simp)).trans h
            have HCl : Hid _ := hcl
            have H8 : Hid (Eight w6 g (i * 8) ((t1, .slice a1 t1.items.length c1), (t2, .slice a2 t2.items.length c2))) := h8
            have HS1 : Hid (Sp (fun b => g + 1 ≤ b ∧ b < w6.heap.size) 16 w6 (.slice a1 t1.items.length c1)) := LiesB.sp (fun b h1 h2 => ⟨h1, h2⟩) _ _ _ nx.1.1
            have HS2 : Hid (Sp (fun b => g + 1 ≤ b ∧ b < w6.heap.size) 16 w6 (.slice a2 t2.items.length c2)) := LiesB.sp (fun b h1 h2 => ⟨h1, h2⟩) _ _ _ nx.2.1
            have HSk : Hid (∀ V, Spt (g + 1) (fun b => g + 1 ≤ b ∧ b < w6.heap.size) w6 V → Calls Tryz.prog 21 #[.agg #[.int .i64 t1.kind, .int .i64 t1.num, .string t1.text, .slice a1 t1.items.length c1]] V fun e w' => e = .returned (.tuple #[]) ∧ Spt (g + 1) (fun b => g + 1 ≤ b ∧ b < w6.heap.size) V w') := fun V hV => spoil_any (g + 1) w6.heap.size _ (fun b h => h) (by omega) 16 _ _ _ _ V hV.below.size (hV.keeps _ _ HS1.out)
            have HSv : Hid (∀ V, Spt (g + 1) (fun b => g + 1 ≤ b ∧ b < w6.heap.size) w6 V → Calls Tryz.prog 21 #[.agg #[.int .i64 t2.kind, .int .i64 t2.num, .string t2.text, .slice a2 t2.items.length c2]] V fun e w' => e = .returned (.tuple #[]) ∧ Spt (g + 1) (fun b => g + 1 ≤ b ∧ b < w6.heap.size) V w') := fun V hV => spoil_any (g + 1) w6.heap.size _ (fun b h => h) (by omega) 16 _ _ _ _ V hV.below.size (hV.keeps _ _ HS2.out)
            clear nx h8 hcl hiT
            have p0 := HCl.out wr HSp.out.below _ _ H8.out.1
            have p1 := HCl.out wr HSp.out.below _ _ H8.out.2.1
            have p2 := HCl.out wr HSp.out.below _ _ H8.out.2.2.1
            have p3 := HCl.out wr HSp.out.below _ _ H8.out.2.2.2.1
            simp only at p0 p1 p2 p3
            go_wp2_with fail
            refine Calls.mono (HSk.out _ HSp.out) ?_
            rintro e w7 ⟨rfl, hs7⟩
            have HSp7 : Hid (Spt (g + 1) (fun b => g + 1 ≤ b ∧ b < w6.heap.size) w6 w7) := HSp.out.trans hs7
            clear p0 p1 p2 p3 hs7
            have p4 := HCl.out w7 HSp7.out.below _ _ H8.out.2.2.2.2.1
            have p5 := HCl.out w7 HSp7.out.below _ _ H8.out.2.2.2.2.2.1
            have p6 := HCl.out w7 HSp7.out.below _ _ H8.out.2.2.2.2.2.2.1
            have p7 := HCl.out w7 HSp7.out.below _ _ H8.out.2.2.2.2.2.2.2
            simp only at p4 p5 p6 p7
            go_wp2_with fail
            refine Calls.mono (HSv.out _ HSp7.out) ?_
            rintro e w8 ⟨rfl, hs8⟩
            have HSp8 : Hid (Spt (g + 1) (fun b => g + 1 ≤ b ∧ b < w6.heap.size) w6 w8) := HSp7.out.trans hs8
            clear p4 p5 p6 p7 hs8 HSk HSv HS1 HS2 HCl H8
            go_wp2_with fail
            go_roundg (L - (i + 1))
            case measure => have := Hz.out; omega
            case rel => exact ⟨i + 1, by go_num, ⟨_, rfl⟩, by omega, rfl, HSp8⟩
          · have hli : ¬ (i : Int) < (L : Nat) := by omega
            have hbz : Below wk.heap.size wk wr := hbk6.trans (HSp.out.below.mono (by omega))
            have HPz : Hid _ := HPx.out wr hbz
            go_wp2_with fail
            refine Calls.mono HPz.out ?_
            rintro e w9 ⟨g9, rs, rfl, hrs, h91, h92, hrow9, hnew9, hg9⟩
            have hb9 : Below wk.heap.size wk w9 := hbz.trans (hg9.mono hbz.size)
            have hrl : rs.length ≤ 65536 := by
              have h9 := congrArg List.length hrs
              rw [List.length_map] at h9
              rw [h9, ← RT.size_items]
              exact HMk.out.size
            have HSame : Hid (Calls Tryz.prog 22 #[.slice (some ⟨g9, 0, none⟩) rs.length rs.length, .slice (some ⟨bkk, 0, none⟩) LK LK] w9 fun e w' => e = .returned (.bool true) ∧ Below w9.heap.size w9 w') := by
              have e8 : LK = ksq.length := HLK.out
              rw [e8]
              refine pairs_same 16 rs ksq (by rw [hrs]; exact HKs.out.1.symm) _ _ w9 ⟨_, _, rfl, Nat.le_refl _, by omega, fun _ => ⟨g9, 0, rfl, Nat.zero_le _, hrow9⟩, fun p hp => (hnew9 p hp).good⟩ ?_ hrl
              exact ⟨_, _, rfl, Nat.le_refl _, by have := HKs.out.2.2.2; omega, fun _ => ⟨bkk, 0, rfl, Nat.zero_le _, HKs.out.2.1.keeps hb9⟩, fun p hp => ((HKs.out.2.2.1 p hp).keeps hb9).good⟩
            obtain ⟨LR, hLR⟩ : ∃ LR, LR = rs.length := ⟨_, rfl⟩
            rw [← hLR] at HSame ⊢
            clear hrs h91 h92 hrow9 hnew9 hg9 hrl hLR HPz
            go_wp2_with fail
            refine Calls.mono HSame.out ?_
            rintro e w10 ⟨rfl, hg10⟩
            have hb10 : Below wk.heap.size wk w10 := hb9.trans (hg10.mono hb9.size)
            have HH10 : Hid _ := HHt.out w10 hb10
            clear hg10 HSame
            go_wp2_with fail
            refine Calls.mono HH10.out ?_
            rintro e w11 ⟨rfl, hg11⟩
            have hb11 : Below wk.heap.size wk w11 := hb10.trans (hg11.mono hb10.size)
            have HSs : Hid _ := HSpk.out w11
            clear hg11 HH10
            go_wp2_with fail
            refine Calls.mono HSs.out ?_
            rintro e w12 ⟨rfl, hg12⟩
            have HE : Hid (Below w.heap.size w w12) := (hbk.trans (hb11.mono hbk.size)).trans (hg12.mono (hbk.trans (hb11.mono hbk.size)).size)
            clear hg12 HSs
            go_wp2_with fail
            go_ret
            exact ⟨rfl, HE.out⟩

end Go.Proofs.YtekoaiehhjgfiabGreat

