/- A right packet comes back from its bytes: numbers and bytes alone. -/
import Derived.Test.YtphmlpdohkfpiaaDoorRpMath
namespace Go.Proofs.YtphmlpdohkfpiaaDoor
open Go.ChangeShapes Go.WideShapes Go.ChangeAt Go.RowKit
set_option linter.unusedVariables false
set_option linter.unusedSimpArgs false

theorem midP (a b c : ByteArray) (i j : Nat) (hi : a.size = i) (hj : i + b.size = j) : ((a ++ b) ++ c).extract i j = b := by
  subst hi
  subst hj
  apply ByteArray.ext
  apply Array.toList_inj.1
  rw [Lib.extract_data, appP_data, appP_data]
  have e1 : a.data.toList.length = a.size := by simp
  have e2 : b.data.toList.length = b.size := by simp
  rw [List.append_assoc, show a.size + b.size - a.size = b.data.toList.length by omega, ← e1, List.drop_left, List.take_left]
theorem headP (b c : ByteArray) (j : Nat) (hj : b.size = j) : (b ++ c).extract 0 j = b := by
  have h := midP ⟨#[]⟩ b c 0 j rfl (by omega)
  have e : (⟨#[]⟩ ++ b : ByteArray) = b := by
    apply ByteArray.ext
    apply Array.toList_inj.1
    rw [appP_data]; rfl
  rwa [e] at h
theorem tailP (a b : ByteArray) (i j : Nat) (hi : a.size = i) (hj : i + b.size = j) : (a ++ b).extract i j = b := by
  have h := midP a b ⟨#[]⟩ i j hi hj
  have e : (a ++ b ++ ⟨#[]⟩ : ByteArray) = a ++ b := by
    apply ByteArray.ext
    apply Array.toList_inj.1
    rw [appP_data]
    exact List.append_nil _
  rwa [e] at h
/-- A time comes back from its stamp. -/
theorem stampP_read (t : Int) (h : 0 ≤ t ∧ t ≤ 4000000000000000) : stampOk (stampB t) = true ∧ stampT (stampB t) = t ∧ (stampB t).size = 8 := by
  have es := stampB_size h
  have e1 : getB ((stampB t).extract 0 4) = t / 1000000 := by rw [show stampB t = put4 (t / 1000000) ++ put4 (t % 1000000 * 4294967296 / 1000000) from if_pos h, headP _ _ 4 (put4_size _)]; exact getB_put4 _ (by omega)
  have e2 : getB ((stampB t).extract 4 8) = t % 1000000 * 4294967296 / 1000000 := by rw [show stampB t = put4 (t / 1000000) ++ put4 (t % 1000000 * 4294967296 / 1000000) from if_pos h, tailP _ _ 4 8 (put4_size _) (by rw [put4_size])]; exact getB_put4 _ (by omega)
  have ea : stampAt (getB ((stampB t).extract 0 4)) (getB ((stampB t).extract 4 8)) = t := by
    rw [e1, e2]; unfold stampAt; omega
  have ok : stampOk (stampB t) = true := by unfold stampOk; rw [ea, es]; simp
  exact ⟨ok, by unfold stampT; rw [ok, ea]; rfl, es⟩
theorem getB_put1 (n : Int) (h : 0 ≤ n ∧ n < 256) : getB (put1 n) = n := by
  have hg : getB (put1 n) = ((UInt8.ofNat (n % 256).toNat).toNat : Int) := by
    unfold getB getN
    show List.foldl _ 0 [UInt8.ofNat (n % 256).toNat] = _
    simp
  rw [hg, UInt8.toNat_ofNat']
  omega
theorem pieces_size (p0 p1 p2 p3 d1 d2 d3 s1 s2 s3 s4 : ByteArray) (hp0 : p0.size = 1) (hp1 : p1.size = 1) (hp2 : p2.size = 1) (hp3 : p3.size = 1) (hd1 : d1.size = 4) (hd2 : d2.size = 4) (hd3 : d3.size = 4) (hs1 : s1.size = 8) (hs2 : s2.size = 8) (hs3 : s3.size = 8) (hs4 : s4.size = 8) : (p0 ++ (p1 ++ p2 ++ p3) ++ (d1 ++ d2 ++ d3) ++ (s1 ++ s2 ++ s3 ++ s4)).size = 48 := by
  simp only [ByteArray.size_append]
  omega
theorem piece0 (p0 p1 p2 p3 d1 d2 d3 s1 s2 s3 s4 : ByteArray) (hp0 : p0.size = 1) (hp1 : p1.size = 1) (hp2 : p2.size = 1) (hp3 : p3.size = 1) (hd1 : d1.size = 4) (hd2 : d2.size = 4) (hd3 : d3.size = 4) (hs1 : s1.size = 8) (hs2 : s2.size = 8) (hs3 : s3.size = 8) (hs4 : s4.size = 8) : (p0 ++ (p1 ++ p2 ++ p3) ++ (d1 ++ d2 ++ d3) ++ (s1 ++ s2 ++ s3 ++ s4)).extract 0 1 = p0 := by
  have e : p0 ++ (p1 ++ p2 ++ p3) ++ (d1 ++ d2 ++ d3) ++ (s1 ++ s2 ++ s3 ++ s4) = p0 ++ (((((((((p1 ++ p2) ++ p3) ++ d1) ++ d2) ++ d3) ++ s1) ++ s2) ++ s3) ++ s4) := by simp only [ByteArray.append_assoc]
  rw [e]
  exact headP _ _ _ hp0
theorem piece1 (p0 p1 p2 p3 d1 d2 d3 s1 s2 s3 s4 : ByteArray) (hp0 : p0.size = 1) (hp1 : p1.size = 1) (hp2 : p2.size = 1) (hp3 : p3.size = 1) (hd1 : d1.size = 4) (hd2 : d2.size = 4) (hd3 : d3.size = 4) (hs1 : s1.size = 8) (hs2 : s2.size = 8) (hs3 : s3.size = 8) (hs4 : s4.size = 8) : (p0 ++ (p1 ++ p2 ++ p3) ++ (d1 ++ d2 ++ d3) ++ (s1 ++ s2 ++ s3 ++ s4)).extract 1 2 = p1 := by
  have e : p0 ++ (p1 ++ p2 ++ p3) ++ (d1 ++ d2 ++ d3) ++ (s1 ++ s2 ++ s3 ++ s4) = (p0 ++ p1) ++ ((((((((p2 ++ p3) ++ d1) ++ d2) ++ d3) ++ s1) ++ s2) ++ s3) ++ s4) := by simp only [ByteArray.append_assoc]
  rw [e]
  exact midP _ _ _ _ _ (by (try simp only [ByteArray.size_append]); omega) (by omega)
theorem piece2 (p0 p1 p2 p3 d1 d2 d3 s1 s2 s3 s4 : ByteArray) (hp0 : p0.size = 1) (hp1 : p1.size = 1) (hp2 : p2.size = 1) (hp3 : p3.size = 1) (hd1 : d1.size = 4) (hd2 : d2.size = 4) (hd3 : d3.size = 4) (hs1 : s1.size = 8) (hs2 : s2.size = 8) (hs3 : s3.size = 8) (hs4 : s4.size = 8) : (p0 ++ (p1 ++ p2 ++ p3) ++ (d1 ++ d2 ++ d3) ++ (s1 ++ s2 ++ s3 ++ s4)).extract 2 3 = p2 := by
  have e : p0 ++ (p1 ++ p2 ++ p3) ++ (d1 ++ d2 ++ d3) ++ (s1 ++ s2 ++ s3 ++ s4) = ((p0 ++ p1) ++ p2) ++ (((((((p3 ++ d1) ++ d2) ++ d3) ++ s1) ++ s2) ++ s3) ++ s4) := by simp only [ByteArray.append_assoc]
  rw [e]
  exact midP _ _ _ _ _ (by (try simp only [ByteArray.size_append]); omega) (by omega)
theorem piece3 (p0 p1 p2 p3 d1 d2 d3 s1 s2 s3 s4 : ByteArray) (hp0 : p0.size = 1) (hp1 : p1.size = 1) (hp2 : p2.size = 1) (hp3 : p3.size = 1) (hd1 : d1.size = 4) (hd2 : d2.size = 4) (hd3 : d3.size = 4) (hs1 : s1.size = 8) (hs2 : s2.size = 8) (hs3 : s3.size = 8) (hs4 : s4.size = 8) : (p0 ++ (p1 ++ p2 ++ p3) ++ (d1 ++ d2 ++ d3) ++ (s1 ++ s2 ++ s3 ++ s4)).extract 3 4 = p3 := by
  have e : p0 ++ (p1 ++ p2 ++ p3) ++ (d1 ++ d2 ++ d3) ++ (s1 ++ s2 ++ s3 ++ s4) = (((p0 ++ p1) ++ p2) ++ p3) ++ ((((((d1 ++ d2) ++ d3) ++ s1) ++ s2) ++ s3) ++ s4) := by simp only [ByteArray.append_assoc]
  rw [e]
  exact midP _ _ _ _ _ (by (try simp only [ByteArray.size_append]); omega) (by omega)
theorem piece4 (p0 p1 p2 p3 d1 d2 d3 s1 s2 s3 s4 : ByteArray) (hp0 : p0.size = 1) (hp1 : p1.size = 1) (hp2 : p2.size = 1) (hp3 : p3.size = 1) (hd1 : d1.size = 4) (hd2 : d2.size = 4) (hd3 : d3.size = 4) (hs1 : s1.size = 8) (hs2 : s2.size = 8) (hs3 : s3.size = 8) (hs4 : s4.size = 8) : (p0 ++ (p1 ++ p2 ++ p3) ++ (d1 ++ d2 ++ d3) ++ (s1 ++ s2 ++ s3 ++ s4)).extract 4 8 = d1 := by
  have e : p0 ++ (p1 ++ p2 ++ p3) ++ (d1 ++ d2 ++ d3) ++ (s1 ++ s2 ++ s3 ++ s4) = ((((p0 ++ p1) ++ p2) ++ p3) ++ d1) ++ (((((d2 ++ d3) ++ s1) ++ s2) ++ s3) ++ s4) := by simp only [ByteArray.append_assoc]
  rw [e]
  exact midP _ _ _ _ _ (by (try simp only [ByteArray.size_append]); omega) (by omega)
theorem piece5 (p0 p1 p2 p3 d1 d2 d3 s1 s2 s3 s4 : ByteArray) (hp0 : p0.size = 1) (hp1 : p1.size = 1) (hp2 : p2.size = 1) (hp3 : p3.size = 1) (hd1 : d1.size = 4) (hd2 : d2.size = 4) (hd3 : d3.size = 4) (hs1 : s1.size = 8) (hs2 : s2.size = 8) (hs3 : s3.size = 8) (hs4 : s4.size = 8) : (p0 ++ (p1 ++ p2 ++ p3) ++ (d1 ++ d2 ++ d3) ++ (s1 ++ s2 ++ s3 ++ s4)).extract 8 12 = d2 := by
  have e : p0 ++ (p1 ++ p2 ++ p3) ++ (d1 ++ d2 ++ d3) ++ (s1 ++ s2 ++ s3 ++ s4) = (((((p0 ++ p1) ++ p2) ++ p3) ++ d1) ++ d2) ++ ((((d3 ++ s1) ++ s2) ++ s3) ++ s4) := by simp only [ByteArray.append_assoc]
  rw [e]
  exact midP _ _ _ _ _ (by (try simp only [ByteArray.size_append]); omega) (by omega)
theorem piece6 (p0 p1 p2 p3 d1 d2 d3 s1 s2 s3 s4 : ByteArray) (hp0 : p0.size = 1) (hp1 : p1.size = 1) (hp2 : p2.size = 1) (hp3 : p3.size = 1) (hd1 : d1.size = 4) (hd2 : d2.size = 4) (hd3 : d3.size = 4) (hs1 : s1.size = 8) (hs2 : s2.size = 8) (hs3 : s3.size = 8) (hs4 : s4.size = 8) : (p0 ++ (p1 ++ p2 ++ p3) ++ (d1 ++ d2 ++ d3) ++ (s1 ++ s2 ++ s3 ++ s4)).extract 12 16 = d3 := by
  have e : p0 ++ (p1 ++ p2 ++ p3) ++ (d1 ++ d2 ++ d3) ++ (s1 ++ s2 ++ s3 ++ s4) = ((((((p0 ++ p1) ++ p2) ++ p3) ++ d1) ++ d2) ++ d3) ++ (((s1 ++ s2) ++ s3) ++ s4) := by simp only [ByteArray.append_assoc]
  rw [e]
  exact midP _ _ _ _ _ (by (try simp only [ByteArray.size_append]); omega) (by omega)
theorem piece7 (p0 p1 p2 p3 d1 d2 d3 s1 s2 s3 s4 : ByteArray) (hp0 : p0.size = 1) (hp1 : p1.size = 1) (hp2 : p2.size = 1) (hp3 : p3.size = 1) (hd1 : d1.size = 4) (hd2 : d2.size = 4) (hd3 : d3.size = 4) (hs1 : s1.size = 8) (hs2 : s2.size = 8) (hs3 : s3.size = 8) (hs4 : s4.size = 8) : (p0 ++ (p1 ++ p2 ++ p3) ++ (d1 ++ d2 ++ d3) ++ (s1 ++ s2 ++ s3 ++ s4)).extract 16 24 = s1 := by
  have e : p0 ++ (p1 ++ p2 ++ p3) ++ (d1 ++ d2 ++ d3) ++ (s1 ++ s2 ++ s3 ++ s4) = (((((((p0 ++ p1) ++ p2) ++ p3) ++ d1) ++ d2) ++ d3) ++ s1) ++ ((s2 ++ s3) ++ s4) := by simp only [ByteArray.append_assoc]
  rw [e]
  exact midP _ _ _ _ _ (by (try simp only [ByteArray.size_append]); omega) (by omega)
theorem piece8 (p0 p1 p2 p3 d1 d2 d3 s1 s2 s3 s4 : ByteArray) (hp0 : p0.size = 1) (hp1 : p1.size = 1) (hp2 : p2.size = 1) (hp3 : p3.size = 1) (hd1 : d1.size = 4) (hd2 : d2.size = 4) (hd3 : d3.size = 4) (hs1 : s1.size = 8) (hs2 : s2.size = 8) (hs3 : s3.size = 8) (hs4 : s4.size = 8) : (p0 ++ (p1 ++ p2 ++ p3) ++ (d1 ++ d2 ++ d3) ++ (s1 ++ s2 ++ s3 ++ s4)).extract 24 32 = s2 := by
  have e : p0 ++ (p1 ++ p2 ++ p3) ++ (d1 ++ d2 ++ d3) ++ (s1 ++ s2 ++ s3 ++ s4) = ((((((((p0 ++ p1) ++ p2) ++ p3) ++ d1) ++ d2) ++ d3) ++ s1) ++ s2) ++ (s3 ++ s4) := by simp only [ByteArray.append_assoc]
  rw [e]
  exact midP _ _ _ _ _ (by (try simp only [ByteArray.size_append]); omega) (by omega)
theorem piece9 (p0 p1 p2 p3 d1 d2 d3 s1 s2 s3 s4 : ByteArray) (hp0 : p0.size = 1) (hp1 : p1.size = 1) (hp2 : p2.size = 1) (hp3 : p3.size = 1) (hd1 : d1.size = 4) (hd2 : d2.size = 4) (hd3 : d3.size = 4) (hs1 : s1.size = 8) (hs2 : s2.size = 8) (hs3 : s3.size = 8) (hs4 : s4.size = 8) : (p0 ++ (p1 ++ p2 ++ p3) ++ (d1 ++ d2 ++ d3) ++ (s1 ++ s2 ++ s3 ++ s4)).extract 32 40 = s3 := by
  have e : p0 ++ (p1 ++ p2 ++ p3) ++ (d1 ++ d2 ++ d3) ++ (s1 ++ s2 ++ s3 ++ s4) = (((((((((p0 ++ p1) ++ p2) ++ p3) ++ d1) ++ d2) ++ d3) ++ s1) ++ s2) ++ s3) ++ s4 := by simp only [ByteArray.append_assoc]
  rw [e]
  exact midP _ _ _ _ _ (by (try simp only [ByteArray.size_append]); omega) (by omega)
theorem piece10 (p0 p1 p2 p3 d1 d2 d3 s1 s2 s3 s4 : ByteArray) (hp0 : p0.size = 1) (hp1 : p1.size = 1) (hp2 : p2.size = 1) (hp3 : p3.size = 1) (hd1 : d1.size = 4) (hd2 : d2.size = 4) (hd3 : d3.size = 4) (hs1 : s1.size = 8) (hs2 : s2.size = 8) (hs3 : s3.size = 8) (hs4 : s4.size = 8) : (p0 ++ (p1 ++ p2 ++ p3) ++ (d1 ++ d2 ++ d3) ++ (s1 ++ s2 ++ s3 ++ s4)).extract 40 48 = s4 := by
  have e : p0 ++ (p1 ++ p2 ++ p3) ++ (d1 ++ d2 ++ d3) ++ (s1 ++ s2 ++ s3 ++ s4) = (((((((((p0 ++ p1) ++ p2) ++ p3) ++ d1) ++ d2) ++ d3) ++ s1) ++ s2) ++ s3) ++ s4 := by simp only [ByteArray.append_assoc]
  rw [e]
  exact tailP _ _ _ _ (by (try simp only [ByteArray.size_append]); omega) (by omega)
/-- A right packet comes back from its bytes. -/
theorem rp_back (p : Pk) (h : p.ok = true) : p.bytes.size = 48 ∧ rpOk p.bytes = true ∧ rpPk p.bytes = p := by
  obtain ⟨⟨a0, a1⟩, ⟨b0, b1⟩, ⟨c0, c1⟩, ⟨d0, d1⟩, ⟨f0, f1⟩, ⟨g0, g1⟩, ⟨i0, i1⟩, j, k, l, m⟩ := Pk.ok_bounds h
  obtain ⟨oj, tj, zj⟩ := stampP_read p.ref j
  obtain ⟨ok, tk, zk⟩ := stampP_read p.orig k
  obtain ⟨ol, tl, zl⟩ := stampP_read p.recv l
  obtain ⟨om, tm, zm⟩ := stampP_read p.xmit m
  have e1 : p.bytes = put1 (p.leap * 64 + p.version * 8 + p.mode) ++ (put1 p.stratum ++ put1 p.poll ++ put1 236) ++ (put4 p.delay ++ put4 p.disp ++ put4 0) ++ (stampB p.ref ++ stampB p.orig ++ stampB p.recv ++ stampB p.xmit) := by
    have e1 : p.bytes = p.headB ++ p.stepsB ++ p.lengthsB ++ p.timesB := by unfold Pk.bytes; rw [h]; rfl
    rw [e1]
    unfold Pk.headB Pk.stepsB Pk.lengthsB Pk.timesB
    rfl
  obtain ⟨s, hs⟩ : ∃ s, p.bytes = s := ⟨_, rfl⟩
  rw [hs] at e1 ⊢
  have z : s.size = 48 := by rw [e1]; exact pieces_size (put1 (p.leap * 64 + p.version * 8 + p.mode)) (put1 p.stratum) (put1 p.poll) (put1 236) (put4 p.delay) (put4 p.disp) (put4 0) (stampB p.ref) (stampB p.orig) (stampB p.recv) (stampB p.xmit) (put1_size _) (put1_size _) (put1_size _) (put1_size _) (put4_size _) (put4_size _) (put4_size _) zj zk zl zm
  have x0 : s.extract 0 1 = put1 (p.leap * 64 + p.version * 8 + p.mode) := by rw [e1]; exact piece0 (put1 (p.leap * 64 + p.version * 8 + p.mode)) (put1 p.stratum) (put1 p.poll) (put1 236) (put4 p.delay) (put4 p.disp) (put4 0) (stampB p.ref) (stampB p.orig) (stampB p.recv) (stampB p.xmit) (put1_size _) (put1_size _) (put1_size _) (put1_size _) (put4_size _) (put4_size _) (put4_size _) zj zk zl zm
  have x1 : s.extract 1 2 = put1 p.stratum := by rw [e1]; exact piece1 (put1 (p.leap * 64 + p.version * 8 + p.mode)) (put1 p.stratum) (put1 p.poll) (put1 236) (put4 p.delay) (put4 p.disp) (put4 0) (stampB p.ref) (stampB p.orig) (stampB p.recv) (stampB p.xmit) (put1_size _) (put1_size _) (put1_size _) (put1_size _) (put4_size _) (put4_size _) (put4_size _) zj zk zl zm
  have x2 : s.extract 2 3 = put1 p.poll := by rw [e1]; exact piece2 (put1 (p.leap * 64 + p.version * 8 + p.mode)) (put1 p.stratum) (put1 p.poll) (put1 236) (put4 p.delay) (put4 p.disp) (put4 0) (stampB p.ref) (stampB p.orig) (stampB p.recv) (stampB p.xmit) (put1_size _) (put1_size _) (put1_size _) (put1_size _) (put4_size _) (put4_size _) (put4_size _) zj zk zl zm
  have x3 : s.extract 3 4 = put1 236 := by rw [e1]; exact piece3 (put1 (p.leap * 64 + p.version * 8 + p.mode)) (put1 p.stratum) (put1 p.poll) (put1 236) (put4 p.delay) (put4 p.disp) (put4 0) (stampB p.ref) (stampB p.orig) (stampB p.recv) (stampB p.xmit) (put1_size _) (put1_size _) (put1_size _) (put1_size _) (put4_size _) (put4_size _) (put4_size _) zj zk zl zm
  have x4 : s.extract 4 8 = put4 p.delay := by rw [e1]; exact piece4 (put1 (p.leap * 64 + p.version * 8 + p.mode)) (put1 p.stratum) (put1 p.poll) (put1 236) (put4 p.delay) (put4 p.disp) (put4 0) (stampB p.ref) (stampB p.orig) (stampB p.recv) (stampB p.xmit) (put1_size _) (put1_size _) (put1_size _) (put1_size _) (put4_size _) (put4_size _) (put4_size _) zj zk zl zm
  have x5 : s.extract 8 12 = put4 p.disp := by rw [e1]; exact piece5 (put1 (p.leap * 64 + p.version * 8 + p.mode)) (put1 p.stratum) (put1 p.poll) (put1 236) (put4 p.delay) (put4 p.disp) (put4 0) (stampB p.ref) (stampB p.orig) (stampB p.recv) (stampB p.xmit) (put1_size _) (put1_size _) (put1_size _) (put1_size _) (put4_size _) (put4_size _) (put4_size _) zj zk zl zm
  have x6 : s.extract 12 16 = put4 0 := by rw [e1]; exact piece6 (put1 (p.leap * 64 + p.version * 8 + p.mode)) (put1 p.stratum) (put1 p.poll) (put1 236) (put4 p.delay) (put4 p.disp) (put4 0) (stampB p.ref) (stampB p.orig) (stampB p.recv) (stampB p.xmit) (put1_size _) (put1_size _) (put1_size _) (put1_size _) (put4_size _) (put4_size _) (put4_size _) zj zk zl zm
  have x7 : s.extract 16 24 = stampB p.ref := by rw [e1]; exact piece7 (put1 (p.leap * 64 + p.version * 8 + p.mode)) (put1 p.stratum) (put1 p.poll) (put1 236) (put4 p.delay) (put4 p.disp) (put4 0) (stampB p.ref) (stampB p.orig) (stampB p.recv) (stampB p.xmit) (put1_size _) (put1_size _) (put1_size _) (put1_size _) (put4_size _) (put4_size _) (put4_size _) zj zk zl zm
  have x8 : s.extract 24 32 = stampB p.orig := by rw [e1]; exact piece8 (put1 (p.leap * 64 + p.version * 8 + p.mode)) (put1 p.stratum) (put1 p.poll) (put1 236) (put4 p.delay) (put4 p.disp) (put4 0) (stampB p.ref) (stampB p.orig) (stampB p.recv) (stampB p.xmit) (put1_size _) (put1_size _) (put1_size _) (put1_size _) (put4_size _) (put4_size _) (put4_size _) zj zk zl zm
  have x9 : s.extract 32 40 = stampB p.recv := by rw [e1]; exact piece9 (put1 (p.leap * 64 + p.version * 8 + p.mode)) (put1 p.stratum) (put1 p.poll) (put1 236) (put4 p.delay) (put4 p.disp) (put4 0) (stampB p.ref) (stampB p.orig) (stampB p.recv) (stampB p.xmit) (put1_size _) (put1_size _) (put1_size _) (put1_size _) (put4_size _) (put4_size _) (put4_size _) zj zk zl zm
  have x10 : s.extract 40 48 = stampB p.xmit := by rw [e1]; exact piece10 (put1 (p.leap * 64 + p.version * 8 + p.mode)) (put1 p.stratum) (put1 p.poll) (put1 236) (put4 p.delay) (put4 p.disp) (put4 0) (stampB p.ref) (stampB p.orig) (stampB p.recv) (stampB p.xmit) (put1_size _) (put1_size _) (put1_size _) (put1_size _) (put4_size _) (put4_size _) (put4_size _) zj zk zl zm
  have y0 : by1 s 0 = p.leap * 64 + p.version * 8 + p.mode := by unfold by1; rw [show 0 + 1 = 1 from rfl, x0]; exact getB_put1 _ (by omega)
  have y1 : by1 s 1 = p.stratum := by unfold by1; rw [show 1 + 1 = 2 from rfl, x1]; exact getB_put1 _ (by omega)
  have y2 : by1 s 2 = p.poll := by unfold by1; rw [show 2 + 1 = 3 from rfl, x2]; exact getB_put1 _ (by omega)
  have y3 : by1 s 3 = 236 := by unfold by1; rw [show 3 + 1 = 4 from rfl, x3]; exact getB_put1 _ (by omega)
  have y4 : by4 s 4 = p.delay := by unfold by4; rw [show 4 + 4 = 8 from rfl, x4]; exact getB_put4 _ (by omega)
  have y5 : by4 s 8 = p.disp := by unfold by4; rw [show 8 + 4 = 12 from rfl, x5]; exact getB_put4 _ (by omega)
  have y6 : by4 s 12 = 0 := by unfold by4; rw [show 12 + 4 = 16 from rfl, x6]; exact getB_put4 _ (by omega)
  have ep : rpPk s = p := by
    unfold rpPk
    rw [y0, y1, y2, y4, y5, x7, x8, x9, x10, tj, tk, tl, tm]
    rw [show (p.leap * 64 + p.version * 8 + p.mode) / 64 = p.leap by omega, show (p.leap * 64 + p.version * 8 + p.mode) / 8 % 8 = p.version by omega, show (p.leap * 64 + p.version * 8 + p.mode) % 8 = p.mode by omega]
  refine ⟨z, ?_, ep⟩
  unfold rpOk rpSt
  rw [ep, h, y3, y6, x7, x8, x9, x10, oj, ok, ol, om, decide_eq_true z]
  rfl
theorem rp_none (p : Pk) (h : p.ok = false) : p.bytes = ⟨#[]⟩ ∧ rpOk p.bytes = false := by
  have e : p.bytes = ⟨#[]⟩ := by unfold Pk.bytes; rw [h]; rfl
  refine ⟨e, ?_⟩
  rw [e]
  unfold rpOk
  rfl
end Go.Proofs.YtphmlpdohkfpiaaDoor
