"""Rows of small numbers multiplied: bytes, words, bfloat16."""
