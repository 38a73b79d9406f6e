package pinned

// The tables, as the chapter writes them: hexadecimal, both ends in.
const (
	chapterZero = "0300-036f, 0483-0489, 0591-05bd, 05bf, 05c1-05c2, 05c4-05c5, 05c7, 0610-061a, 064b-065f, 0670, " +
		"06d6-06dc, 06df-06e4, 06e7-06e8, 06ea-06ed, 0711, 0730-074a, 07a6-07b0, 07eb-07f3, 0816-0819, " +
		"081b-0823, 0825-0827, 0829-082d, 0859-085b, 08d3-08e1, 08e3-0902, 093a, 093c, 0941-0948, 094d, " +
		"0951-0957, 0962-0963, 0981, 09bc, 09c1-09c4, 09cd, 0a01-0a02, 0a3c, 0a41-0a42, 0a47-0a48, 0a4b-0a4d, " +
		"0e31, 0e34-0e3a, 0e47-0e4e, 0eb1, 0eb4-0ebc, 0ec8-0ecd, 1160-11ff, 135d-135f, 1712-1714, 17b4-17b5, " +
		"17b7-17bd, 180b-180d, 1ab0-1abe, 1dc0-1df9, 1dfb-1dff, 200b-200f, 2028-202e, 2060-206f, 20d0-20f0, " +
		"302a-302d, 3099-309a, a66f-a672, a674-a67d, a69e-a69f, a6f0-a6f1, a8e0-a8f1, fb1e, fe00-fe0f, " +
		"fe20-fe2f, feff, fff9-fffb, 101fd, 10a01-10a03, 10a05-10a06, 10a0c-10a0f, 1d167-1d169, 1d173-1d182, " +
		"1d185-1d18b, 1d1aa-1d1ad, e0001, e0020-e007f, e0100-e01ef"
	chapterWide = "1100-115f, 231a-231b, 2329-232a, 23e9-23ec, 23f0, 23f3, 25fd-25fe, 2614-2615, 2648-2653, 267f, 2693, " +
		"26a1, 26aa-26ab, 26bd-26be, 26c4-26c5, 26ce, 26d4, 26ea, 26f2-26f3, 26f5, 26fa, 26fd, 2705, " +
		"270a-270b, 2728, 274c, 274e, 2753-2755, 2757, 2795-2797, 27b0, 27bf, 2b1b-2b1c, 2b50, 2b55, " +
		"2e80-2e99, 2e9b-2ef3, 2f00-2fd5, 2ff0-2ffb, 3000-3029, 302e-303e, 3041-3096, 309b-30ff, 3105-312f, " +
		"3131-318e, 3190-31ba, 31c0-31e3, 31f0-321e, 3220-3247, 3250-4dbf, 4e00-a48c, a490-a4c6, a960-a97c, " +
		"ac00-d7a3, f900-faff, fe10-fe19, fe30-fe52, fe54-fe66, fe68-fe6b, ff01-ff60, ffe0-ffe6, 16fe0-16fe3, " +
		"17000-187f7, 18800-18af2, 1b000-1b11e, 1b150-1b152, 1b164-1b167, 1b170-1b2fb, 1f004, 1f0cf, 1f18e, " +
		"1f191-1f19a, 1f200-1f202, 1f210-1f23b, 1f240-1f248, 1f250-1f251, 1f260-1f265, 1f300-1f320, " +
		"1f32d-1f335, 1f337-1f37c, 1f37e-1f393, 1f3a0-1f3ca, 1f3cf-1f3d3, 1f3e0-1f3f0, 1f3f4, 1f3f8-1f43e, " +
		"1f440, 1f442-1f4fc, 1f4ff-1f53d, 1f54b-1f54e, 1f550-1f567, 1f57a, 1f595-1f596, 1f5a4, 1f5fb-1f64f, " +
		"1f680-1f6c5, 1f6cc, 1f6d0-1f6d2, 1f6d5-1f6d7, 1f6eb-1f6ec, 1f6f4-1f6fc, 1f7e0-1f7eb, 1f90c-1f93a, " +
		"1f93c-1f945, 1f947-1f978, 1f97a-1f9cb, 1f9cd-1f9ff, 1fa70-1fa74, 1fa78-1fa7a, 1fa80-1fa86, " +
		"1fa90-1faa8, 1fab0-1fab6, 1fac0-1fac2, 1fad0-1fad6, 20000-2fffd, 30000-3fffd"
	chapterControl = "0-1f, 7f-9f"
	chapterBidi    = "061c, 200e-200f, 202a-202e, 2066-2069"
	chapterFormat  = "00ad, 0600-0605, 06dd, 070f, 08e2, 180e, 200b-200d, 2060-2064, 206a-206f, feff, fff9-fffb, 110bd, " +
		"110cd, 1bca0-1bca3, 1d173-1d17a, e0001, e0020-e007f"
	chapterSeparator = "2028-2029"
)
